/- Shelves of one's own by ranges: a number or the lists of one of them written; conditions: none. -/
import Derived.Test.YtjdepjpjjgkmbaaGreatSpecReg4
import Derived.Test.YtjdepjpjjgkmbaaGreatExactNewServerSeg0
import Derived.Test.YtjdepjpjjgkmbaaGreatSpecReg1
import Derived.Test.YtjdepjpjjgkmbaaGreatRegOk2
import Derived.Test.YtjdepjpjjgkmbaaGreatRepData
import Derived.Test.YtjdepjpjjgkmbaaGreatRecsBlock
import Derived.Test.YtjdepjpjjgkmbaaGreatVarReg

/- The model's l7Copy and l7Write once more: the lists that they answer are one's own (written by reg_own.py). -/
namespace Go.Proofs.YtjdepjpjjgkmbaaGreat
open Go.RowKit Go.Deep

/-- A row of one's own, in a block of [lo, hi). -/
def OwnR (t : TypeId) (size : Nat) (w : World) (lo hi : Nat) (u : Value) (n : Nat) (vs : List Value) : Prop :=
  ∃ g cap, lo ≤ g ∧ g < hi ∧ u = .slice (some ⟨g, 0, none⟩) n cap ∧ w.ownsRow lo t size u n vs
section
variable {t : TypeId} {size : Nat} {w w' : World} {lo hi : Nat} {u : Value} {n : Nat} {vs : List Value}
theorem OwnR.keepG (h : OwnR t size w lo hi u n vs) {r : Option Nat} (hg : w.grownBy w' r) (hr : ∀ b, r = some b → b < lo ∨ hi ≤ b) : OwnR t size w' lo hi u n vs := by
  obtain ⟨g, cap, h1, h2, rfl, h4⟩ := h
  exact ⟨g, cap, h1, h2, rfl, h4.kept hg (.inr (fun e => by have := hr g e.symm; omega))⟩
theorem OwnR.later (h : OwnR t size w lo hi u n vs) (hb : Below w.heap.size w w') : OwnR t size w' lo hi u n vs :=
  h.keepG (grown_bel hb none) (fun b e => by cases e)
theorem OwnR.kept {r : Nat} (h : OwnR t size w lo hi u n vs) (hg : w.grownBy w' (some r)) (hr : hi ≤ r) : OwnR t size w' lo hi u n vs :=
  h.keepG hg (fun b e => by injection e with e; omega)
theorem OwnR.far (h : OwnR t size w lo hi u n vs) {b : Nat} (hb : b < lo) (o : Nat) (x : Value) : OwnR t size (w.setCell ⟨b, o, none⟩ x) lo hi u n vs :=
  h.keepG (grown_set (grown_refl w _) o x) (fun k e => by injection e with e; omega)
theorem OwnR.farHi (h : OwnR t size w lo hi u n vs) {b : Nat} (hb : hi ≤ b) (o : Nat) (x : Value) : OwnR t size (w.setCell ⟨b, o, none⟩ x) lo hi u n vs :=
  h.keepG (grown_set (grown_refl w _) o x) (fun k e => by injection e with e; omega)
theorem OwnR.far5 (h : OwnR t size w lo hi u n vs) {b : Nat} (hb : b < lo) (x0 x1 x2 x3 x4 : Value) : OwnR t size (((((w.setCell ⟨b, 0, none⟩ x0).setCell ⟨b, 1, none⟩ x1).setCell ⟨b, 2, none⟩ x2).setCell ⟨b, 3, none⟩ x3).setCell ⟨b, 4, none⟩ x4) lo hi u n vs :=
  ((((h.far hb 0 x0).far hb 1 x1).far hb 2 x2).far hb 3 x3).far hb 4 x4
theorem OwnR.wide {lo' hi' : Nat} (h : OwnR t size w lo hi u n vs) (h1 : lo' ≤ lo) (h2 : hi ≤ hi') : OwnR t size w lo' hi' u n vs := by
  obtain ⟨g, cap, a1, a2, rfl, a4⟩ := h
  exact ⟨g, cap, by omega, by omega, rfl, ownLow a4 h1⟩
theorem OwnR.form (h : OwnR t size w lo hi u n vs) : ∃ g cap, u = .slice (some ⟨g, 0, none⟩) n cap := by
  obtain ⟨g, cap, a1, a2, rfl, a4⟩ := h
  exact ⟨g, cap, rfl⟩
end
abbrev OP (w : World) (lo hi : Nat) (u : Value) (D : List (Int × Int)) : Prop := OwnR 136 2 w lo hi u D.length (flatP D)
abbrev OO (w : World) (lo hi : Nat) (u : Value) (D : List Opn) : Prop := OwnR 97 4 w lo hi u D.length (flatO D)

end Go.Proofs.YtjdepjpjjgkmbaaGreat

/- The model's l7Write once more: the lists of its answer are one's own (written by reg_own2.py). -/
namespace Go.Proofs.YtjdepjpjjgkmbaaGreat
open Go.RowKit Go.Deep

/-- What the model's writing keeps. -/
structure LWO (w wr : World) (S B : Nat) (s l c sh : Int) (A : Option Addr) (n cap : Nat) (rt rq rv : Int) (P : Option Addr) (p pc : Nat) (Q : Option Addr) (q qc : Nat) (ct cq : Int) (u v : Value) (ps : List (Int × Int)) (os : List Opn) : Prop where
  bel : Below w.heap.size w wr
  G : Box wr w.heap.size 26 #[.int .i64 s, .int .i64 l, .int .i64 c, .int .i64 sh, .slice A n cap]
  D : Box wr (w.heap.size + 1) 80 #[.int .i64 rt, .int .i64 rq, .int .i64 rv, .slice P p pc, .slice Q q qc]
  T : Box wr (w.heap.size + 1 + 1) 39 #[.int .i64 ct, .int .i64 cq]
  X : Box wr (w.heap.size + 1 + 1 + 1) 80 #[.int .i64 0, .int .i64 0, .int .i64 0, .slice none 0 0, .slice none 0 0]
  Y : Box wr S 80 #[.int .i64 rt, .int .i64 rq, .int .i64 rv, u, v]
  hlo : w.heap.size + 1 + 1 + 1 < B
  hBS : B ≤ S
  R : OP wr (w.heap.size + 1 + 1 + 1 + 1) B u ps
  V : OO wr B S v os
theorem LWO.later {w wr w' : World} {S B : Nat} {s l c sh : Int} {A : Option Addr} {n cap : Nat} {rt rq rv : Int} {P : Option Addr} {p pc : Nat} {Q : Option Addr} {q qc : Nat} {ct cq : Int} {u v : Value} {ps : List (Int × Int)} {os : List Opn} (h : LWO w wr S B s l c sh A n cap rt rq rv P p pc Q q qc ct cq u v ps os) (hb : Below wr.heap.size wr w') : LWO w w' S B s l c sh A n cap rt rq rv P p pc Q q qc ct cq u v ps os :=
  ⟨bel_trans h.bel hb, h.G.later hb h.G.lt, h.D.later hb h.D.lt, h.T.later hb h.T.lt, h.X.later hb h.X.lt, h.Y.later hb h.Y.lt, h.hlo, h.hBS, h.R.later hb, h.V.later hb⟩
/-- What the model's writing keeps, once stamp and value are written. -/
structure LVO (w wr : World) (S B : Nat) (s l c sh : Int) (A : Option Addr) (n cap : Nat) (ct cq v : Int) (z u : Value) (os : List Opn) : Prop where
  bel : Below w.heap.size w wr
  G : Box wr w.heap.size 26 #[.int .i64 s, .int .i64 l, .int .i64 c, .int .i64 sh, .slice A n cap]
  T : Box wr (w.heap.size + 1 + 1) 39 #[.int .i64 ct, .int .i64 cq]
  X : Box wr (w.heap.size + 1 + 1 + 1) 80 #[.int .i64 0, .int .i64 0, .int .i64 0, .slice none 0 0, .slice none 0 0]
  Y : Box wr S 80 #[.int .i64 ct, .int .i64 cq, .int .i64 v, z, u]
  hlo : w.heap.size + 1 + 1 + 1 < B
  hBS : B ≤ S
  V : OO wr B S u os
theorem LVO.later {w wr w' : World} {S B : Nat} {s l c sh : Int} {A : Option Addr} {n cap : Nat} {ct cq v : Int} {z u : Value} {os : List Opn} (h : LVO w wr S B s l c sh A n cap ct cq v z u os) (hb : Below wr.heap.size wr w') : LVO w w' S B s l c sh A n cap ct cq v z u os :=
  ⟨bel_trans h.bel hb, h.G.later hb h.G.lt, h.T.later hb h.T.lt, h.X.later hb h.X.lt, h.Y.later hb h.Y.lt, h.hlo, h.hBS, h.V.later hb⟩
theorem LVO.drew {w wr : World} {S B : Nat} {s l c sh : Int} {A : Option Addr} {n cap : Nat} {ct cq v : Int} {z u : Value} {os : List Opn} (h : LVO w wr S B s l c sh A n cap ct cq v z u os) : LVO w wr.drew S B s l c sh A n cap ct cq v z u os := h.later ((Below.refl _ _).drew)
theorem LWO.put {w wr : World} {S B : Nat} {s l c sh : Int} {A : Option Addr} {n cap : Nat} {rt rq rv : Int} {P : Option Addr} {p pc : Nat} {Q : Option Addr} {q qc : Nat} {ct cq : Int} {u u' : Value} {ps : List (Int × Int)} {os : List Opn} (h : LWO w wr S B s l c sh A n cap rt rq rv P p pc Q q qc ct cq u u' ps os) (v : Int) :
    LVO w (((wr.setCell ⟨S, 0, none⟩ (.int .i64 ct)).setCell ⟨S, 1, none⟩ (.int .i64 cq)).setCell ⟨S, 2, none⟩ (.int .i64 v)) S B s l c sh A n cap ct cq v u u' os := by
  have hlo := h.hlo
  have hBS := h.hBS
  have hw : w.heap.size ≤ S := by omega
  refine ⟨((h.bel.setCell (p := ⟨S, 0, none⟩) hw _).setCell (p := ⟨S, 1, none⟩) hw _).setCell (p := ⟨S, 2, none⟩) hw _, ?_, ?_, ?_, ((h.Y.set 0 _).set 1 _).set 2 _, hlo, hBS, ((h.V.farHi (Nat.le_refl _) 0 _).farHi (Nat.le_refl _) 1 _).farHi (Nat.le_refl _) 2 _⟩
  · exact ((h.G.far (p := ⟨S, 0, none⟩) (by show S ≠ _; omega) _).far (p := ⟨S, 1, none⟩) (by show S ≠ _; omega) _).far (p := ⟨S, 2, none⟩) (by show S ≠ _; omega) _
  · exact ((h.T.far (p := ⟨S, 0, none⟩) (by show S ≠ _; omega) _).far (p := ⟨S, 1, none⟩) (by show S ≠ _; omega) _).far (p := ⟨S, 2, none⟩) (by show S ≠ _; omega) _
  · exact ((h.X.far (p := ⟨S, 0, none⟩) (by show S ≠ _; omega) _).far (p := ⟨S, 1, none⟩) (by show S ≠ _; omega) _).far (p := ⟨S, 2, none⟩) (by show S ≠ _; omega) _
end Go.Proofs.YtjdepjpjjgkmbaaGreat

/- The model's l4Cert: a list of right seals, one's own. -/
namespace Go.Proofs.YtjdepjpjjgkmbaaGreat
open Go.RowKit

/-- What l4Cert keeps. -/
structure LC (w wr : World) (s l c sh : Int) (A : Option Addr) (m cap' : Nat) (zs : List Int) (ck ch ct cq cv : Int) (p pc : Nat) (ps : List (Int × Int)) : Prop where
  bel : Below w.heap.size w wr
  gr : Box wr w.heap.size 26 #[.int .i64 s, .int .i64 l, .int .i64 c, .int .i64 sh, .slice A m cap']
  cl : Box wr (w.heap.size + 1) 180 #[.int .i64 ck, .int .i64 ch, .int .i64 ct, .int .i64 cq, .int .i64 cv]
  own : wr.ownsRow (w.heap.size + 2) 136 2 (.slice (some ⟨p, 0, none⟩) ps.length pc) ps.length (flatP ps)
  row : Row wr w.heap.size A m zs
section
variable {w wr w' : World} {s l c sh : Int} {A : Option Addr} {m cap' : Nat} {zs : List Int} {ck ch ct cq cv : Int} {p pc : Nat} {ps : List (Int × Int)}
theorem LC.later (h : LC w wr s l c sh A m cap' zs ck ch ct cq cv p pc ps) (hb : Below wr.heap.size wr w') : LC w w' s l c sh A m cap' zs ck ch ct cq cv p pc ps :=
  ⟨bel_trans h.bel hb, h.gr.later hb h.gr.lt, h.cl.later hb h.cl.lt, h.own.kept (grown_bel hb none) (by simp [Value.ownBlock]), h.row.below hb h.bel.size⟩
theorem LC.push {a b : Int} {ob : Obj} {gg cap2 : Nat} (h : LC w wr s l c sh A m cap' zs ck ch ct cq cv p pc ps)
    (hown : w'.ownsRow (w.heap.size + 2) 136 2 (.slice (some ⟨gg, 0, none⟩) (ps.length + 1) cap2) (ps.length + 1) (flatP ps ++ [.int .i64 a, .int .i64 b])) (hg : (wr.alloc ob).grownBy w' (Value.ownBlock (.slice (some ⟨p, 0, none⟩) ps.length pc))) : LC w w' s l c sh A m cap' zs ck ch ct cq cv gg cap2 (ps ++ [(a, b)]) := by
  have hp := (h.own.lt p rfl).1
  have hg : (wr.alloc ob).grownBy w' (some p) := hg
  have h2 := h.later (bel_alloc wr ob)
  have hB : Below w.heap.size w w' := bel_grown h2.bel hg (by omega)
  refine ⟨hB, h2.gr.kept hg (by intro e; injection e with e; omega), h2.cl.kept hg (by intro e; injection e with e; omega), ?_, h.row.keep fun q hq => ?_⟩
  · rw [flatP_snoc]
    simpa using hown
  · exact (hB.cell hq).trans (h.bel.cell hq).symm
end

end Go.Proofs.YtjdepjpjjgkmbaaGreat

/- The model's l7Draw: a shelf of a group, its lists one's own. -/
namespace Go.Proofs.YtjdepjpjjgkmbaaGreat
open Go.RowKit Go.Deep

/-- What l7Draw keeps while it draws the opens. -/
structure RSt (w wr : World) (g : Nat) (A : Option Addr) (n cap : Nat) (s l c sh : Int) (q o m cap' : Nat) (zs : List Int) (v : Value) (os : List Opn) : Prop where
  cur : Cur wr 169 .i64 g A n cap
  grw : w.grownBy wr (some g)
  G : Box wr w.heap.size 26 #[.int .i64 s, .int .i64 l, .int .i64 c, .int .i64 sh, .slice (some ⟨q, o, none⟩) m cap']
  X : Box wr (w.heap.size + 1) 80 #[.int .i64 0, .int .i64 0, .int .i64 0, .slice none 0 0, .slice none 0 0]
  Y : Box wr (w.heap.size + 1 + 1) 80 #[.int .i64 0, .int .i64 0, .int .i64 0, .slice none 0 0, v]
  own : wr.ownsRow (w.heap.size + 3) 97 4 v os.length (flatO os)
  row : Row wr w.heap.size (some ⟨q, o, none⟩) m zs
section
variable {w wr w' : World} {g : Nat} {A : Option Addr} {n cap : Nat} {s l c sh : Int} {q o m cap' : Nat} {zs : List Int} {v v' : Value} {os os' : List Opn}
theorem RSt.low (h : RSt w wr g A n cap s l c sh q o m cap' zs v os) (b : Nat) (e : v.ownBlock = some b) : w.heap.size + 3 ≤ b := (h.own.lt b e).1
theorem RSt.later (h : RSt w wr g A n cap s l c sh q o m cap' zs v os) (hb : Below wr.heap.size wr w') : RSt w w' g A n cap s l c sh q o m cap' zs v os :=
  ⟨h.cur.kept (grown_bel hb none) (fun q hq => by cases hq), grown_trans h.grw (grown_bel hb _), h.G.later hb h.G.lt, h.X.later hb h.X.lt, h.Y.later hb h.Y.lt, h.own.kept (grown_bel hb none) (by cases v.ownBlock <;> simp), h.row.below hb h.grw.size⟩
/-- An open more, and the list is laid back. -/
theorem RSt.push {wd : World} (h : RSt w wr g A n cap s l c sh q o m cap' zs v os) (hgl : g < w.heap.size) (gd : wr.grownBy wd v.ownBlock) (ho : wd.ownsRow (w.heap.size + 3) 97 4 v' os'.length (flatO os')) : RSt w (wd.setCell ⟨w.heap.size + 1 + 1, 4, none⟩ v') g A n cap s l c sh q o m cap' zs v' os' := by
  have hl := h.low
  have gs : wd.grownBy (wd.setCell ⟨w.heap.size + 1 + 1, 4, none⟩ v') (some (w.heap.size + 1 + 1)) := grown_set (grown_refl wd _) 4 v'
  have hne : ∀ b : Nat, b < w.heap.size + 3 → v.ownBlock ≠ some b := fun b hb e => by have := hl b e; omega
  have hrow := h.row.keptB h.grw.size gd (fun k hk => by have := hl k hk; exact .inl (by omega))
  refine ⟨(h.cur.kept gd (fun k hk => by have := hl k hk; omega)).kept gs (fun k hk => by injection hk with hk; omega), grown_far (grown_far h.grw gd (fun k hk => by have := hl k hk; omega)) gs (fun k hk => by injection hk with hk; omega), (h.G.kept gd (hne _ (by omega))).kept gs (by intro e; injection e with e; omega), (h.X.kept gd (hne _ (by omega))).kept gs (by intro e; injection e with e; omega), (h.Y.kept gd (hne _ (by omega))).set 4 v', ho.kept gs (.inr (fun e => by have := (ho.lt _ e).1; omega)), hrow.keptB (Nat.le_trans h.grw.size gd.size) gs (fun k hk => by injection hk with hk; exact .inl (by omega))⟩
/-- A cell of a block behind the shelf's is written. -/
theorem RSt.far (h : RSt w wr g A n cap s l c sh q o m cap' zs v os) (hgl : g < w.heap.size) {S : Nat} (hS : w.heap.size + 1 + 1 < S) (hv : ∀ b, v.ownBlock = some b → b ≠ S) (k : Nat) (u : Value) : RSt w (wr.setCell ⟨S, k, none⟩ u) g A n cap s l c sh q o m cap' zs v os := by
  have hg : wr.grownBy (wr.setCell ⟨S, k, none⟩ u) (some S) := grown_set (grown_refl wr _) k u
  exact ⟨h.cur.kept hg (fun r hr => by injection hr with hr; omega), grown_new h.grw (p := ⟨S, k, none⟩) (show w.heap.size ≤ S by omega) u, h.G.kept hg (by intro e; injection e with e; omega), h.X.kept hg (by intro e; injection e with e; omega), h.Y.kept hg (by intro e; injection e with e; omega), h.own.kept hg (.inr (fun e => hv S e rfl)), h.row.keptB h.grw.size hg (fun k hk => by injection hk with hk; exact .inl (by omega))⟩
end

end Go.Proofs.YtjdepjpjjgkmbaaGreat

/- The model's writing on a shelf, its values and its lists told together (written by spec_write_v.py); conditions: the sizes. -/
namespace Go.Proofs.YtjdepjpjjgkmbaaGreat
open Go.RowKit Go.Deep

end Go.Proofs.YtjdepjpjjgkmbaaGreat

/- Opens that are put to their places stay in order; mathematics alone; no conditions. -/
namespace Go.Proofs.YtjdepjpjjgkmbaaGreat
open Go.RowKit

end Go.Proofs.YtjdepjpjjgkmbaaGreat

/- What is replayed keeps every shelf right; what the functions of chapter 7 answer, as a shelf's data; no conditions. -/
namespace Go.Proofs.YtjdepjpjjgkmbaaGreat
open Go Go.RowKit

/-- What an open answers; what a writing answers: the shelf's data. -/
theorem regR_at {w w' : World} {e : Ending} {rt rq rv : Int} {ps : List (Int × Int)} {os : List Opn} (h : RegR w rt rq rv ps os e w') :
    ∃ u v, e = .returned (.agg #[.int .i64 rt, .int .i64 rq, .int .i64 rv, u, v]) ∧ LieR ⟨rt, rq, rv, ps, os⟩ w' (Iv w.heap.size w'.heap.size) (.agg #[.int .i64 rt, .int .i64 rq, .int .i64 rv, u, v]) ∧ Below w.heap.size w w' := by
  obtain ⟨B, u, v, hB, hB', rfl, h1, h2, hb⟩ := h
  obtain ⟨A, c, rfl, -⟩ := h1.form
  obtain ⟨A', c', rfl, -⟩ := h2.form
  exact ⟨_, _, rfl, ⟨A, _, c, A', _, c', w.heap.size, B, w'.heap.size, rfl, h1, h2.resQ, hB, hB', Nat.le_refl _, fun b hb => hb⟩, hb⟩
end Go.Proofs.YtjdepjpjjgkmbaaGreat

/- The program's onto: a record is done to a shelf (written by onto9.py); conditions: the sizes. -/
namespace Go.Proofs.YtjdepjpjjgkmbaaGreat
open Go Go.RowKit

theorem results_row9 {P : Program} {fn : Func} {x : Tmp} {ty : TypeId} (h : fn.results = #[.cell x ty]) (tmps : Array Value) (w : World) (g : Nat) (t : TypeId) (cs : Array Value) (d : TypeDesc)
    (hx : tmps.getD x undef = .pointer (some ⟨g, 0, none⟩)) (hg : Box w g t cs)
    (hu : P.underlying ty = some d) (hd : (match d with | .struct _ | .array _ _ => true | _ => false) = true) (hi : (P.info? ty).map (·.size) = some cs.size) :
    (results fn tmps).run P w = .ok (.agg cs) w := by
  have ex : tmps[x]?.getD undef = .pointer (some ⟨g, 0, none⟩) := by simpa using hx
  simp [results, h, ex, asAddr, run_loadVar_row w g t ty cs (0, 0) d hg hu hd hi]
/-- A shelf that is answered: its data, its lists in new blocks. -/
def MadeR (o : RegD) (w : World) (e : Ending) (w' : World) : Prop := ∃ u v, e = .returned (.agg #[.int .i64 o.t, .int .i64 o.q, .int .i64 o.v, u, v]) ∧ LieR o w' (Iv w.heap.size w'.heap.size) (.agg #[.int .i64 o.t, .int .i64 o.q, .int .i64 o.v, u, v]) ∧ Below w.heap.size w w'
theorem wrR_at {w w' : World} {o : Out} {e : Ending} (h : WrR w o e w') : ∃ u v, e = .returned (.tuple #[.agg #[.int .i64 o.t, .int .i64 o.q, .int .i64 o.v, u, v], .bool o.f]) ∧ LieR ⟨o.t, o.q, o.v, o.cs, o.os⟩ w' (Iv w.heap.size w'.heap.size) (.agg #[.int .i64 o.t, .int .i64 o.q, .int .i64 o.v, u, v]) ∧ Below w.heap.size w w' := by
  obtain ⟨B, A, n, c, A', n', c', hB, hB', rfl, h1, h2, hb⟩ := h
  exact ⟨_, _, rfl, ⟨A, n, c, A', n', c', w.heap.size, B, w'.heap.size, rfl, h1, h2.resQ, hB, hB', Nat.le_refl _, fun b hb => hb⟩, hb⟩
/-- The shelf is laid into the variable of the answer. -/
theorem madeR_put {o : RegD} {w w2 w3 : World} {R : Nat} {C : Array Value} {N : Nat} (hb : Below w.heap.size w w2) (hR : w.heap.size ≤ R) (hRN : R < N) (_hN : N ≤ w2.heap.size) (hL : LieR o w2 (Iv N w2.heap.size) (.agg C)) (hw : w3 = w2.setRow R C) :
    LieR o w3 (Iv w.heap.size w3.heap.size) (.agg C) ∧ Below w.heap.size w w3 := by
  have ht := turns_setRow w2 R C
  rw [hw]
  exact ⟨(keepsLR o).sub ((keepsLR o).turn hL ht (iv_one (.inl hRN))) (fun b hb => ⟨by have := hb.1; omega, by have := hb.2; rw [size_setRow]; exact this⟩), ht.below hb (fun i hi => by omega)⟩

set_option maxRecDepth 100000 in
set_option maxHeartbeats 16000000 in
theorem onto_is (g : GrpD) (d : RecD) (r : RegD) (A : Option Addr) (n cap : Nat) (L : Option Addr) (m mc : Nat) (P : Option Addr) (p pc : Nat) (Q : Option Addr) (q qc : Nat) (w : World)
    (hm : n ≤ maxLen) (hgr : Row w w.heap.size A n g.zs) (hmc : m ≤ 4194304) (hp : Pairs w w.heap.size L m d.ps) (h1 : Slc w (.slice P p pc) r.ps) (h2 : SlcQ w (.slice Q q qc) r.os) (hs1 : r.ps.length ≤ 2000000) (hs2 : r.os.length ≤ 2000000) (hlp : r.ps.length = p) (hlq : r.os.length = q) :
    Calls Tryz.prog 178 #[.agg #[.int .i64 d.r1, .int .i64 d.r2, .int .i64 d.r3, .int .i64 d.r4, .int .i64 d.r5, .int .i64 d.r6, .int .i64 d.r7, .slice L m mc, .int .i64 d.r8], .agg #[.int .i64 g.s, .int .i64 g.l, .int .i64 g.c, .int .i64 g.sh, .slice A n cap], .agg #[.int .i64 r.t, .int .i64 r.q, .int .i64 r.v, .slice P p pc, .slice Q q qc]] w (MadeR (ontoD g d r) w) := by
  have E := bel_trans (bel_trans (bel_trans (bel_alloc w (.cells #[.int .i64 d.r1, .int .i64 d.r2, .int .i64 d.r3, .int .i64 d.r4, .int .i64 d.r5, .int .i64 d.r6, .int .i64 d.r7, .slice L m mc, .int .i64 d.r8] 46)) (bel_alloc _ (.cells #[.int .i64 g.s, .int .i64 g.l, .int .i64 g.c, .int .i64 g.sh, .slice A n cap] 26))) (bel_alloc _ (.cells #[.int .i64 r.t, .int .i64 r.q, .int .i64 r.v, .slice P p pc, .slice Q q qc] 80))) (bel_alloc _ (.cells #[.int .i64 0, .int .i64 0, .int .i64 0, .slice none 0 0, .slice none 0 0] 80))
  have D := (((Box.new w 46 #[.int .i64 d.r1, .int .i64 d.r2, .int .i64 d.r3, .int .i64 d.r4, .int .i64 d.r5, .int .i64 d.r6, .int .i64 d.r7, .slice L m mc, .int .i64 d.r8]).alloc (.cells #[.int .i64 g.s, .int .i64 g.l, .int .i64 g.c, .int .i64 g.sh, .slice A n cap] 26)).alloc (.cells #[.int .i64 r.t, .int .i64 r.q, .int .i64 r.v, .slice P p pc, .slice Q q qc] 80)).alloc (.cells #[.int .i64 0, .int .i64 0, .int .i64 0, .slice none 0 0, .slice none 0 0] 80)
  have G := ((Box.new (w.alloc (.cells #[.int .i64 d.r1, .int .i64 d.r2, .int .i64 d.r3, .int .i64 d.r4, .int .i64 d.r5, .int .i64 d.r6, .int .i64 d.r7, .slice L m mc, .int .i64 d.r8] 46)) 26 #[.int .i64 g.s, .int .i64 g.l, .int .i64 g.c, .int .i64 g.sh, .slice A n cap]).alloc (.cells #[.int .i64 r.t, .int .i64 r.q, .int .i64 r.v, .slice P p pc, .slice Q q qc] 80)).alloc (.cells #[.int .i64 0, .int .i64 0, .int .i64 0, .slice none 0 0, .slice none 0 0] 80)
  have V := (Box.new ((w.alloc (.cells #[.int .i64 d.r1, .int .i64 d.r2, .int .i64 d.r3, .int .i64 d.r4, .int .i64 d.r5, .int .i64 d.r6, .int .i64 d.r7, .slice L m mc, .int .i64 d.r8] 46)).alloc (.cells #[.int .i64 g.s, .int .i64 g.l, .int .i64 g.c, .int .i64 g.sh, .slice A n cap] 26)) 80 #[.int .i64 r.t, .int .i64 r.q, .int .i64 r.v, .slice P p pc, .slice Q q qc]).alloc (.cells #[.int .i64 0, .int .i64 0, .int .i64 0, .slice none 0 0, .slice none 0 0] 80)
  have X := Box.new (((w.alloc (.cells #[.int .i64 d.r1, .int .i64 d.r2, .int .i64 d.r3, .int .i64 d.r4, .int .i64 d.r5, .int .i64 d.r6, .int .i64 d.r7, .slice L m mc, .int .i64 d.r8] 46)).alloc (.cells #[.int .i64 g.s, .int .i64 g.l, .int .i64 g.c, .int .i64 g.sh, .slice A n cap] 26)).alloc (.cells #[.int .i64 r.t, .int .i64 r.q, .int .i64 r.v, .slice P p pc, .slice Q q qc] 80)) 80 #[.int .i64 0, .int .i64 0, .int .i64 0, .slice none 0 0, .slice none 0 0]
  simp only [World.size_alloc] at G V X
  have HR := Lib.hid ((hgr.below E (Nat.le_refl _)).more E.size)
  have HP := Lib.hid (hp.later E)
  have H1 := Lib.hid (h1.later E)
  have H2 := Lib.hid (h2.later E)
  have HM := Lib.hid hm
  have HL1 := Lib.hid hlp
  have HL2 := Lib.hid hlq
  clear hgr hp h1 h2 hm hlp hlq
  go_enter Tryz.func178, Tryz.ntmps178
  go_upto_region 1 with fail
  generalize ((((w.alloc _).alloc _).alloc _).alloc _ : World) = w0 at E D G V X HR HP H1 H2 ⊢
  have d1 := D.cell 1
  have hXl := X.lt
  have IX := Lib.hid (show (Tryz.prog.info? 80).map (·.size) = some 5 from by kernel_rfl)
  by_cases h2 : d.r2 = 1
  · skip
    have h2b : (d.r2 == 1) = true := by simpa using h2
    have hh2 := Lib.hid h2
    clear h2
    go_upto_region 2 with fail
    clear d1 h2b
    refine wp_region_sink 5 (fun w' => Box w' w.heap.size 46 #[.int .i64 d.r1, .int .i64 d.r2, .int .i64 d.r3, .int .i64 d.r4, .int .i64 d.r5, .int .i64 d.r6, .int .i64 d.r7, .slice L m mc, .int .i64 d.r8] ∧ Box w' (w.heap.size + 1 + 1) 80 #[.int .i64 r.t, .int .i64 r.q, .int .i64 r.v, .slice P p pc, .slice Q q qc]) (by kernel_rfl) ⟨D, V⟩ (fun hH => ?_)
    have hb := (Below.refl w0.heap.size w0).drew
    replace E := bel_trans E hb
    replace D := D.later hb D.lt
    replace V := V.later hb V.lt
    replace X := X.later hb X.lt
    replace H1 := Lib.hid (H1.out.later hb)
    replace H2 := Lib.hid (H2.out.later hb)
    replace hXl := Nat.lt_of_lt_of_le hXl hb.size
    clear hb
    generalize w0.drew = w1 at E D V X H1 H2 hH hXl ⊢
    refine wpAnyE_takeS (i := 0) (v := .agg #[.int .i64 r.t, .int .i64 r.q, .int .i64 r.v, .slice P p pc, .slice Q q qc]) (by simp only [List.getElem?_toArray, List.getElem?_cons_zero]; rfl) (by kernel_rfl) (by kernel_rfl) (by kernel_rfl) (by exact fun _ _ _ h => h) (by kernel_rfl) ?y0 hH ?_
    case y0 => exact yields_box 80 _ rfl (w.heap.size + 1 + 1) rfl 80 #[.int .i64 r.t, .int .i64 r.q, .int .i64 r.v, .slice P p pc, .slice Q q qc] (fun _ h => h.2) _ Tryz.underlying80 rfl IX.out (by first | rfl | simp [Region.wanted, yielded] | (simp [Region.wanted, yielded, Act.put] <;> omega))
    try simp only [Act.put, List.setIfInBounds_toArray, List.set_cons_zero, List.set_cons_succ]
    refine wpAnyE_takeS (i := 1) (v := .agg #[.int .i64 d.r1, .int .i64 d.r2, .int .i64 d.r3, .int .i64 d.r4, .int .i64 d.r5, .int .i64 d.r6, .int .i64 d.r7, .slice L m mc, .int .i64 d.r8]) (by simp only [List.getElem?_toArray, List.getElem?_cons_succ, List.getElem?_cons_zero]; rfl) (by kernel_rfl) (by kernel_rfl) (by kernel_rfl) (by exact fun _ _ _ h => h) (by kernel_rfl) ?y1 hH ?_
    case y1 => exact yields_box 46 _ rfl (w.heap.size) rfl 46 #[.int .i64 d.r1, .int .i64 d.r2, .int .i64 d.r3, .int .i64 d.r4, .int .i64 d.r5, .int .i64 d.r6, .int .i64 d.r7, .slice L m mc, .int .i64 d.r8] (fun _ h => h.1) _ Tryz.underlying46 rfl (by kernel_rfl) (by first | rfl | simp [Region.wanted, yielded] | (simp [Region.wanted, yielded, Act.put] <;> omega))
    try simp only [Act.put, List.setIfInBounds_toArray, List.set_cons_zero, List.set_cons_succ]
    refine wpAnyE_one (i := 2) (by kernel_rfl) (by simp only [List.getElem?_toArray, List.getElem?_cons_succ, List.getElem?_cons_zero]; rfl) (fun K' hK => ?_)
    go_simp
    refine (recOpen_is d.r1 d.r2 d.r3 d.r4 d.r5 d.r6 d.r7 L m mc d.r8 w1).mono ?_
    rintro e w2 ⟨rfl, hb⟩
    replace E := bel_trans E hb
    replace D := D.later hb D.lt
    replace V := V.later hb V.lt
    replace X := X.later hb X.lt
    replace H1 := Lib.hid (H1.out.later hb)
    replace H2 := Lib.hid (H2.out.later hb)
    replace hXl := Nat.lt_of_lt_of_le hXl hb.size
    clear hb
    obtain ⟨w1, rfl⟩ : ∃ x, x = w2 := ⟨_, rfl⟩
    clear hH
    refine hK.out _ _ ⟨D, V⟩ (fun hH => ?_)
    clear hK K'
    try simp only [Act.put, List.setIfInBounds_toArray, List.set_cons_zero, List.set_cons_succ]
    refine wpAnyE_one (i := 3) (by kernel_rfl) (by simp only [List.getElem?_toArray, List.getElem?_cons_succ, List.getElem?_cons_zero]; rfl) (fun K' hK => ?_)
    go_simp
    refine (withOpen_is r.t r.q r.v P p pc Q q qc d.r4 d.r5 d.r6 d.r7 r.ps r.os w1 hs1 hs2 H1.out H2.out).mono ?_
    rintro e w2 hE
    obtain ⟨u, v, rfl, hL, hb⟩ := regR_at hE
    have hN := hb.size
    replace E := bel_trans E hb
    replace D := D.later hb D.lt
    replace V := V.later hb V.lt
    replace X := X.later hb X.lt
    have hz := X.lt
    clear hE hb
    have hon : ontoD g d r = ⟨r.t, r.q, r.v, r.ps, withO r.os (d.r4, d.r5, d.r6, d.r7)⟩ := by unfold ontoD; rw [if_pos hh2.out]
    replace hon := Lib.hid hon
    clear hH
    refine hK.out _ _ ⟨D, V⟩ (fun hH => ?_)
    clear hK K'
    try simp only [Act.put, List.setIfInBounds_toArray, List.set_cons_zero, List.set_cons_succ]
    have OL := Lib.hid (oneR hL.at)
    generalize w1.heap.size = N at hL hN hXl
    have ht := turns_setRow w2 (w.heap.size + 1 + 1 + 1) #[.int .i64 r.t, .int .i64 r.q, .int .i64 r.v, u, v]
    have B := Lib.hid (X.setRow #[.int .i64 r.t, .int .i64 r.q, .int .i64 r.v, u, v])
    obtain ⟨hL2, hb2⟩ := madeR_put (w3 := w2.setRow (w.heap.size + 1 + 1 + 1) #[.int .i64 r.t, .int .i64 r.q, .int .i64 r.v, u, v]) E (by omega) hXl hN hL rfl
    replace hL2 := Lib.hid hL2
    replace hb2 := Lib.hid hb2
    refine wpAnyE_end (i := 4) (by kernel_rfl) (by simp only [List.getElem?_toArray, List.getElem?_cons_succ, List.getElem?_cons_zero]; rfl) (by kernel_rfl) (fun K' hK => ?_)
    rw [if_pos (by first | rfl | kernel_rfl | simp [Region.wanted, yielded])]
    refine wp_store_row 80 _ _ rfl (w.heap.size + 1 + 1 + 1) #[.int .i64 r.t, .int .i64 r.q, .int .i64 r.v, u, v] rfl rfl 80 #[.int .i64 0, .int .i64 0, .int .i64 0, .slice none 0 0, .slice none 0 0] X IX.out rfl OL.out.2 ?_
    refine hK.out _ _ ⟨D.turn ht (by omega), V.turn ht (by omega)⟩ ?_
    clear hK K'
    try simp only [Act.put]
    clear hH D V X ht hL
    go_wp2
    exact bodyPost_ret (v := .agg #[.int .i64 r.t, .int .i64 r.q, .int .i64 r.v, u, v]) (results_row9 (Tryz.results178) _ _ (w.heap.size + 1 + 1 + 1) 80 #[.int .i64 r.t, .int .i64 r.q, .int .i64 r.v, u, v] _ rfl B.out Tryz.underlying80 rfl IX.out) rfl (by rw [hon.out]; exact ⟨u, v, rfl, hL2.out, hb2.out⟩)
  have h2b : (d.r2 == 1) = false := by simpa using h2
  have hh2 := Lib.hid h2
  clear h2
  go_upto_region 3 with fail
  clear d1 h2b
  obtain ⟨d0, d1, d2, d3, d4, d5, d6, d7, d8⟩ := D.nine
  obtain ⟨g0, g1, g2, g3, g4⟩ := G.five
  obtain ⟨v0, v1, v2, v3, v4⟩ := V.five
  go_wp2_with fail
  obtain ⟨O, hO⟩ : ∃ O, outW g.s g.l g.c g.sh g.zs d.r3 r.t r.q r.v r.ps r.os d.r5 d.r6 d.r7 d.ps = O := ⟨_, rfl⟩
  refine (written_is g.s g.l g.c g.sh A n cap g.zs d.r3 r.t r.q r.v P p pc Q q qc d.r5 d.r6 d.r7 L m mc r.ps r.os d.ps w0 HM.out HR.out (by have := HL1.out; omega) (by have := HL2.out; omega) H1.out H2.out hmc HP.out).mono ?_
  rintro e w1 hE
  rw [hO] at hE
  obtain ⟨u, v, rfl, hL, hb⟩ := wrR_at hE
  have hon : ontoD g d r = ⟨O.t, O.q, O.v, O.cs, O.os⟩ := by unfold ontoD; rw [if_neg hh2.out, hO]
  have HON := Lib.hid hon
  replace E := bel_trans E hb
  replace X := X.later hb X.lt
  have OL := Lib.hid (oneR hL.at)
  clear hE hO hon g0 g1 g2 g3 g4 v0 v1 v2 v3 v4 d0 d1 d2 d3 d4 d5 d6 d7 d8 D G V
  have hN := hb.size
  clear hb
  generalize w0.heap.size = N at hL hN hXl
  have ZB := Box.new w1 80 #[.int .i64 0, .int .i64 0, .int .i64 0, .slice none 0 0, .slice none 0 0]
  have hn := bel_new_row w1 #[.int .i64 0, .int .i64 0, .int .i64 0, .slice none 0 0, .slice none 0 0] 80 #[.int .i64 O.t, .int .i64 O.q, .int .i64 O.v, u, v]
  have VB := ZB.setRow #[.int .i64 O.t, .int .i64 O.q, .int .i64 O.v, u, v]
  have hV1 := X.lt
  replace hL := (keepsLR _).later hL hn
  replace E := bel_trans E hn
  replace X := X.later hn X.lt
  go_upto_region 4 with (refine wpList_store_row rfl 80 _ _ rfl w1.heap.size _ rfl rfl 80 #[.int .i64 0, .int .i64 0, .int .i64 0, .slice none 0 0, .slice none 0 0] ZB IX.out rfl OL.out.2 ?_)
  clear ZB
  have hz2 := hn.size
  clear hn
  generalize ((w1.alloc _).setRow _ _ : World) = w2 at hL E X VB hz2 ⊢
  generalize w1.heap.size = VV at hL hN hV1 VB hz2 ⊢
  have ht := turns_setRow w2 (w.heap.size + 1 + 1 + 1) #[.int .i64 O.t, .int .i64 O.q, .int .i64 O.v, u, v]
  have B := Lib.hid (X.setRow #[.int .i64 O.t, .int .i64 O.q, .int .i64 O.v, u, v])
  obtain ⟨hL2, hb2⟩ := madeR_put (w3 := w2.setRow (w.heap.size + 1 + 1 + 1) #[.int .i64 O.t, .int .i64 O.q, .int .i64 O.v, u, v]) E (by omega) hXl (by omega) ((keepsLR _).sub hL (fun b hb => ⟨hb.1, by have := hb.2; omega⟩)) rfl
  replace hL2 := Lib.hid hL2
  replace hb2 := Lib.hid hb2
  clear ht hL E
  go_wp2_with (first | (refine wpList_load_box 80 _ rfl VV rfl 80 #[.int .i64 O.t, .int .i64 O.q, .int .i64 O.v, u, v] VB _ Tryz.underlying80 rfl IX.out (by first | rfl | simp [Region.wanted, yielded] | (simp [Region.wanted, yielded, Act.put] <;> omega)) ?_) | (refine wpList_store_row rfl 80 _ _ rfl (w.heap.size + 1 + 1 + 1) _ rfl rfl 80 #[.int .i64 0, .int .i64 0, .int .i64 0, .slice none 0 0, .slice none 0 0] X IX.out rfl OL.out.2 ?_))
  exact bodyPost_ret (v := .agg #[.int .i64 O.t, .int .i64 O.q, .int .i64 O.v, u, v]) (results_row9 (Tryz.results178) _ _ (w.heap.size + 1 + 1 + 1) 80 #[.int .i64 O.t, .int .i64 O.q, .int .i64 O.v, u, v] _ rfl B.out Tryz.underlying80 rfl IX.out) rfl (by rw [HON.out]; exact ⟨u, v, rfl, hL2.out, hb2.out⟩)

end Go.Proofs.YtjdepjpjjgkmbaaGreat

/- The model's l9Apply: a right record is done to its shelf (written by apply_s.py); conditions: the shelves are right, the sizes. -/
namespace Go.Proofs.YtjdepjpjjgkmbaaGreat
open Go Go.RowKit

theorem hreg {P : RegD → World → (Nat → Prop) → Value → Prop} (kp : ∀ d, Keeps (P d)) {w : World} {g lo : Nat} {rs : List RegD} (h : RegsOwn P w g lo rs) {i : Nat} (hi : i < rs.length) :
    ∃ u v, w.cell? ⟨g, i * 5, none⟩ = some (.int .i64 (rs[i]).t) ∧ w.cell? ⟨g, i * 5 + 1, none⟩ = some (.int .i64 (rs[i]).q) ∧ w.cell? ⟨g, i * 5 + 2, none⟩ = some (.int .i64 (rs[i]).v) ∧ w.cell? ⟨g, i * 5 + 3, none⟩ = some u ∧ w.cell? ⟨g, i * 5 + 4, none⟩ = some v ∧
      P rs[i] w (fun b => lo ≤ b) (.agg #[.int .i64 (rs[i]).t, .int .i64 (rs[i]).q, .int .i64 (rs[i]).v, u, v]) := by
  obtain ⟨_, Fs, hR, hF⟩ := h
  obtain ⟨u, v, c0, c1, c2, c3, c4, hP⟩ := hR.get hi
  exact ⟨u, v, c0, c1, c2, c3, c4, (kp _).sub hP (fun b hb => (hF i hi b hb).1)⟩
theorem grownG5 {w w2 : World} (h : Below w.heap.size w w2) (G : Nat) {o0 o1 o2 o3 o4 : Nat} (x0 x1 x2 x3 x4 : Value) : w.grownBy (((((w2.setCell ⟨G, o0, none⟩ x0).setCell ⟨G, o1, none⟩ x1).setCell ⟨G, o2, none⟩ x2).setCell ⟨G, o3, none⟩ x3).setCell ⟨G, o4, none⟩ x4) (some G) := by
  have t5 : Turns (· = G) w2 (((((w2.setCell ⟨G, o0, none⟩ x0).setCell ⟨G, o1, none⟩ x1).setCell ⟨G, o2, none⟩ x2).setCell ⟨G, o3, none⟩ x3).setCell ⟨G, o4, none⟩ x4) :=
    ((((turns_cell5 w2 G _ _).trans (turns_cell5 _ G _ _)).trans (turns_cell5 _ G _ _)).trans (turns_cell5 _ G _ _)).trans (turns_cell5 _ G _ _)
  exact ⟨t5.os.trans h.os, t5.tape.trans h.tape, t5.output.trans h.output, Nat.le_trans h.size t5.size, fun i hi hne => (t5.block i (Nat.lt_of_lt_of_le hi h.size) (fun e => hne (by rw [e]))).trans (h.block i hi)⟩

end Go.Proofs.YtjdepjpjjgkmbaaGreat

/- The model's Replayed: what was done to each shelf, one record after the other (written by rep_s.py); conditions: the sizes. -/
namespace Go.Proofs.YtjdepjpjjgkmbaaGreat
open Go Go.RowKit

theorem Tryz.infoReg9 : (Tryz.prog.info? 80).map (fun i => (i.zero, i.size, i.bytes)) = some (some (.agg #[.int .i64 0, .int .i64 0, .int .i64 0, .slice none 0 0, .slice none 0 0]), 5, 72) := by kernel_rfl
theorem run_make_regs {P : Program} (t e : TypeId) (ht : P.underlying t = some (.slice e)) (hinfo : (P.info? e).map (fun i => (i.zero, i.size, i.bytes)) = some (some (.agg #[.int .i64 0, .int .i64 0, .int .i64 0, .slice none 0 0, .slice none 0 0]), 5, 72))
    (n : Nat) (hn : n ≤ 1048576) (w : World) :
    (Instr.makeSlice t (.int .i64 (n : Int)) (.int .i64 (n : Int))).run P w = .ok (.slice (some ⟨w.heap.size, 0, none⟩) n n) (w.alloc (.cells (madeCells #[.int .i64 0, .int .i64 0, .int .i64 0, .slice none 0 0, .slice none 0 0] (n * 5)) e)) := by
  obtain ⟨i, hi, hzz⟩ := Option.map_eq_some_iff.1 hinfo
  simp only [Prod.mk.injEq] at hzz
  obtain ⟨hz, hs, hb⟩ := hzz
  have hr := run_make (P := P) w t e i _ ht hi hz .i64 .i64 n n (by omega) (Int.le_refl _) (by rw [hb]; omega) (by omega)
  simp only [Int.toNat_natCast, hs] at hr
  exact hr
/-- No shelves at all. -/
theorem regs_none (P : RegD → World → (Nat → Prop) → Value → Prop) (w : World) : RegsOwn P (w.alloc (.cells #[] 80)) w.heap.size w.heap.size [] :=
  ⟨Nat.le_refl _, fun _ _ => False, ⟨⟨#[], Box.new w _ _, rfl, fun i hi => absurd hi (by simp)⟩, fun _ _ _ h => h.elim, fun _ _ _ _ _ _ h => h.elim⟩, fun _ _ _ h => h.elim⟩
/-- What Replayed leaves: shelves of one's own, and a flag. -/
def MadeReps (P : RegD → World → (Nat → Prop) → Value → Prop) (rs : List RegD) (f : Bool) (w : World) (e : Ending) (w' : World) : Prop :=
  ∃ G c, e = .returned (.tuple #[.slice (some ⟨G, 0, none⟩) rs.length c, .bool f]) ∧ RegsOwn P w' G w.heap.size rs ∧ Below w.heap.size w w'
theorem RegsOwn.low {P : RegD → World → (Nat → Prop) → Value → Prop} {w : World} {g lo lo' : Nat} {rs : List RegD} (h : RegsOwn P w g lo rs) (hl : lo' ≤ lo) : RegsOwn P w g lo' rs := by
  obtain ⟨hg, Fs, hR, hF⟩ := h
  exact ⟨by omega, Fs, hR, fun i hi b hb => ⟨by have := (hF i hi b hb).1; omega, (hF i hi b hb).2⟩⟩
theorem regOf_lt {rs : List RegD} {i : Nat} (h : i < rs.length) : regOf rs i = rs[i] := by
  unfold regOf
  rw [List.getD_eq_getElem?_getD, List.getElem?_eq_getElem h]
  rfl

theorem RowF.later {w w' : World} {F : Nat → Prop} {A : Option Addr} {n : Nat} {zs : List Int} (h : RowF w F A n zs) (hb : Below w.heap.size w w') : RowF w' F A n zs := h.turn (T := fun _ => False) (Turns.of_below hb) (fun _ _ h => h)
end Go.Proofs.YtjdepjpjjgkmbaaGreat

/- The program's Replayed: a loop over the iterator of the records (written by replay_i.py); conditions: the sizes. -/
namespace Go.Proofs.YtjdepjpjjgkmbaaGreat
open Go Go.RowKit Go.Shelf

attribute [local go_sem] Oper.semAt_some

theorem recsOf_is (g : GrpD) (A : Option Addr) (n cap : Nat) (LA : Option Addr) (ln lc : Nat) (w : World) :
    Calls Tryz.prog 177 #[.agg #[.int .i64 g.s, .int .i64 g.l, .int .i64 g.c, .int .i64 g.sh, .slice A n cap], .slice LA ln lc] w fun e w' => e = .returned (.func (.func 217) #[] #[.pointer (some ⟨w.heap.size + 1, 0, none⟩), .pointer (some ⟨w.heap.size, 0, none⟩)]) ∧ w' = (w.alloc (.cells #[.int .i64 g.s, .int .i64 g.l, .int .i64 g.c, .int .i64 g.sh, .slice A n cap] 26)).alloc (.cells #[.slice LA ln lc] 27) := by
  go_enter Tryz.func177, Tryz.ntmps177
  go_wp2
  go_ret
  exact ⟨by simp, rfl⟩

theorem results_cells2 {P : Program} {fn : Func} {x y : Tmp} {t1 t2 : TypeId} (h : fn.results = #[.cell x t1, .cell y t2]) (tmps : Array Value) (w : World) {a b : Addr} {v1 v2 : Value} (hx : tmps.getD x undef = .pointer (some a)) (hy : tmps.getD y undef = .pointer (some b))
    (h1 : (loadVar t1 a).run P w = .ok v1 w) (h2 : (loadVar t2 b).run P w = .ok v2 w) : (results fn tmps).run P w = .ok (.tuple #[v1, v2]) w := by
  have ex : tmps[x]?.getD undef = .pointer (some a) := by simpa using hx
  have ey : tmps[y]?.getD undef = .pointer (some b) := by simpa using hy
  simp [results, h, ex, ey, asAddr, h1, h2]
theorem load_oneR {w : World} {a : Addr} {v : Value} (hc : w.cell? a = some v) : (loadVar 101 a).run Tryz.prog w = .ok v w := by
  simp [loadVar, isAgg, underlying, Tryz.underlying101, hc, go_sem]
theorem load_oneB {w : World} {a : Addr} {v : Value} (hc : w.cell? a = some v) : (loadVar 4 a).run Tryz.prog w = .ok v w := by
  simp [loadVar, isAgg, underlying, Tryz.underlying4, hc, go_sem]
theorem cell_set_self {w : World} {a : Addr} {u v : Value} (h : w.cell? a = some u) : (w.setCell a v).cell? a = some v := World.cell?_setCell_same' _ _ _ (by rw [h]; rfl)
theorem cell_set_other {w : World} {g g' o o' : Nat} {u v : Value} (h : w.cell? ⟨g, o, none⟩ = some u) (hne : g ≠ g') : (w.setCell ⟨g', o', none⟩ v).cell? ⟨g, o, none⟩ = some u := by
  rw [World.cell?_of_block (Below.heap_setCell w ⟨g', o', none⟩ v g hne)]
  exact h

/-- Between two rounds. -/
structure InvR (g : GrpD) (ds : List RecD) (A : Option Addr) (n cap : Nat) (w : World) (G ns : Nat) (pre : List (Fin ds.length)) (W : World) : Prop where
  D : Box W w.heap.size 26 #[.int .i64 g.s, .int .i64 g.l, .int .i64 g.c, .int .i64 g.sh, .slice A n cap]
  R4 : Box W (w.heap.size + 1) 101 #[.slice none 0 0]
  R5 : Box W (w.heap.size + 1 + 1) 4 #[.bool false]
  R6 : Box W (G + 1) 101 #[.slice (some ⟨G, 0, none⟩) ns ns]
  K : RegsOwn LieE W G G (shI g ds pre)
  all : ∀ k, k ∈ pre → isAt g ds k.val = true
  E : Below w.heap.size w W
theorem InvR.own {g : GrpD} {ds : List RecD} {A : Option Addr} {n cap : Nat} {w : World} {G ns N : Nat} (hN : w.heap.size ≤ N) : OwnFrom N (fun pre W => InvR g ds A n cap w G ns pre W) := fun pre X Y row hs hg hr => by
  have hk := cellsK_own hg (fun r e => (hr r e).2)
  exact ⟨hk.box hs.D, hk.box hs.R4, hk.box hs.R5, hk.box hs.R6, hs.K.cells hk, hs.all, ownFrom_below (β := Unit) (Nat.le_refl _) hN () X Y row hs.E hg hr⟩
theorem InvR.later {g : GrpD} {ds : List RecD} {A : Option Addr} {n cap : Nat} {w : World} {G ns : Nat} {pre : List (Fin ds.length)} {W W' : World} (h : InvR g ds A n cap w G ns pre W) (hb : Below W.heap.size W W') : InvR g ds A n cap w G ns pre W' :=
  ⟨h.D.later hb h.D.lt, h.R4.later hb h.R4.lt, h.R5.later hb h.R5.lt, h.R6.later hb h.R6.lt, RegsOwn.later keepsLE h.K hb, h.all, bel_trans h.E hb⟩
theorem InvR.put {g : GrpD} {ds : List RecD} {A : Option Addr} {n cap : Nat} {w : World} {G ns : Nat} {pre pre' : List (Fin ds.length)} {W W' : World} (h : InvR g ds A n cap w G ns pre W) (ht : Turns (· = G) W W') (hG : w.heap.size + 1 + 1 < G) (hK : RegsOwn LieE W' G G (shI g ds pre')) (hall : ∀ k, k ∈ pre' → isAt g ds k.val = true) : InvR g ds A n cap w G ns pre' W' :=
  ⟨h.D.turn ht (by omega), h.R4.turn ht (by omega), h.R5.turn ht (by omega), h.R6.turn ht (by omega), hK, hall, ht.below h.E (fun i e => by omega)⟩
/-- A round that goes on: what it keeps. -/
theorem turns_row5 (w2 : World) (G : Nat) {o0 o1 o2 o3 o4 : Nat} (x0 x1 x2 x3 x4 : Value) : Turns (· = G) w2 (((((w2.setCell ⟨G, o0, none⟩ x0).setCell ⟨G, o1, none⟩ x1).setCell ⟨G, o2, none⟩ x2).setCell ⟨G, o3, none⟩ x3).setCell ⟨G, o4, none⟩ x4) :=
  ((((turns_cell5 w2 G _ _).trans (turns_cell5 _ G _ _)).trans (turns_cell5 _ G _ _)).trans (turns_cell5 _ G _ _)).trans (turns_cell5 _ G _ _)
/-- A round that left. -/
structure OutR (g : GrpD) (ds : List RecD) (w : World) (W : World) : Prop where
  no : ∃ k : Fin ds.length, isAt g ds k.val = false
  res : ∃ E0, Box W (w.heap.size + 1) 101 #[.slice (some ⟨E0, 0, none⟩) 0 0] ∧ Box W (w.heap.size + 1 + 1) 4 #[.bool false] ∧ RegsOwn LieE W E0 E0 [] ∧ w.heap.size ≤ E0
  E : Below w.heap.size w W
theorem OutR.own {g : GrpD} {ds : List RecD} {w : World} {N : Nat} (hN : w.heap.size ≤ N) {β : Type} (p : β → Prop) : OwnFrom N (fun s W => p s ∧ OutR g ds w W) := fun s X Y row hs hg hr => by
  have hk := cellsK_own hg (fun r e => (hr r e).2)
  obtain ⟨E0, h1, h2, h3, h4⟩ := hs.2.res
  exact ⟨hs.1, hs.2.no, ⟨E0, hk.box h1, hk.box h2, h3.cells hk, h4⟩, ownFrom_below (β := Unit) (Nat.le_refl _) hN () X Y row hs.2.E hg hr⟩
theorem totC_len (ds : List RecD) : ds.length ≤ totC ds := by
  unfold totC
  induction ds with
  | nil => exact Nat.zero_le _
  | cons d ds ih => simp only [List.map_cons, List.sum_cons, List.length_cons]; omega
theorem keepsFrom_below {N : Nat} {W W' : World} (h : Below W.heap.size W W') : KeepsFrom N W W' := ⟨h.size, fun k _ _ hk _ => (h.block k (Array.getElem?_eq_some_iff.1 hk).1).trans hk⟩
/-- The frame in which a round's body runs. -/
def frmR (g : GrpD) (ds : List RecD) (A : Option Addr) (n cap : Nat) (LA : Option Addr) (ln lc : Nat) (L : Nat → Option Addr) (m mc : Nat → Nat) (w : World) (G ns B : Nat) (x : Fin ds.length) (Bx : Nat) : Act :=
  { tmps := #[.agg #[.int .i64 g.s, .int .i64 g.l, .int .i64 g.c, .int .i64 g.sh, .slice A n cap], .slice LA ln lc, .pointer (some ⟨w.heap.size, 0, none⟩), undef, .pointer (some ⟨w.heap.size + 1, 0, none⟩), .pointer (some ⟨w.heap.size + 1 + 1, 0, none⟩), .pointer (some ⟨G + 1, 0, none⟩), .pointer (some ⟨Bx, 0, none⟩), .bool (isAt g ds x.val), .agg #[.int .i64 g.s, .int .i64 g.l, .int .i64 g.c, .int .i64 g.sh, .slice A n cap], .bool true, .bool false, undef, .pointer (some ⟨w.heap.size, 3, none⟩), .int .i64 ns, .slice (some ⟨G, 0, none⟩) ns ns, .agg #[.int .i64 g.s, .int .i64 g.l, .int .i64 g.c, .int .i64 g.sh, .slice A n cap], .slice LA ln lc, .func (.func 217) #[] #[.pointer (some ⟨B + 1, 0, none⟩), .pointer (some ⟨B, 0, none⟩)], .agg (cellsC ds[x.val] (L x.val) (m x.val) (mc x.val)), .bool (isAt g ds x.val), undef, undef, undef, undef, undef, undef, undef, undef, undef, undef, undef, undef, undef, undef, undef, undef], defers := [] }

set_option maxRecDepth 100000 in
set_option maxHeartbeats 16000000 in
theorem replayed_is (g : GrpD) (ds : List RecD) (A : Option Addr) (n cap : Nat) (LA : Option Addr) (ln lc : Nat) (w : World) (hm : n ≤ maxLen) (hgr : Row w w.heap.size A n g.zs) (hds : RecsF ds w (· < w.heap.size) LA ln) (htot : totC ds ≤ 1048576) :
    Calls Tryz.prog 131 #[.agg #[.int .i64 g.s, .int .i64 g.l, .int .i64 g.c, .int .i64 g.sh, .slice A n cap], .slice LA ln lc] w (MadeReps LieE (replD g ds).1 (replD g ds).2 w) := by
  refine (callsIn_wide (n := 3)).1 ?_
  refine callsIn_of_wp_marks Tryz.func131 rfl trivial ?_ rfl
  simp only [Tryz.ntmps131, List.size_toArray, List.length_cons, List.length_nil, Nat.reduceAdd, Nat.reduceSub, Array.replicate_succ, Array.replicate_zero, List.push_toArray, List.append_toArray, List.nil_append, List.cons_append]
  have E := bel_trans (bel_trans (bel_alloc w (.cells #[.int .i64 g.s, .int .i64 g.l, .int .i64 g.c, .int .i64 g.sh, .slice A n cap] 26)) (bel_alloc _ (.cells #[.slice none 0 0] 101))) (bel_alloc _ (.cells #[.bool false] 4))
  have D := ((Box.new w 26 #[.int .i64 g.s, .int .i64 g.l, .int .i64 g.c, .int .i64 g.sh, .slice A n cap]).alloc (.cells #[.slice none 0 0] 101)).alloc (.cells #[.bool false] 4)
  have R4 := (Box.new (w.alloc (.cells #[.int .i64 g.s, .int .i64 g.l, .int .i64 g.c, .int .i64 g.sh, .slice A n cap] 26)) 101 #[.slice none 0 0]).alloc (.cells #[.bool false] 4)
  have R5 := Box.new ((w.alloc (.cells #[.int .i64 g.s, .int .i64 g.l, .int .i64 g.c, .int .i64 g.sh, .slice A n cap] 26)).alloc (.cells #[.slice none 0 0] 101)) 4 #[.bool false]
  simp only [World.size_alloc] at R4 R5
  have HR := Lib.hid (RowF.later hgr.all E)
  have HD := Lib.hid (hds.later E)
  have HM := Lib.hid hm
  have HL := Lib.hid hds.1
  have HT := Lib.hid htot
  have HRW := Lib.hid hgr.all
  obtain ⟨L, m, mc, hVw⟩ := hds.vals
  have HVW := Lib.hid hVw
  clear hgr hds hm htot hVw
  gi_upto_region 1 with fail
  generalize (((w.alloc _).alloc _).alloc _ : World) = w0 at D E R4 R5 HR HD ⊢
  obtain ⟨g0, g1, g2, g3, g4⟩ := D.five
  rcases hok : okG g with _ | _
  · skip
    have hrep := Lib.hid (show replD g ds = ([], false) from by unfold replD; rw [hok]; rfl)
    have HO := Lib.hid hok
    clear hok
    gi_upto_region 2 with (refine ⟨trivial, ?_⟩; gi_at_call 175; refine (callsIn_wide.2 (groupB_is (show okB g.s g.l g.c g.sh g.zs = _ from HO.out) A n cap w0 HM.out HR.out.1)).mono ?_; rintro e w1 ⟨rfl, hb⟩)
    have E1 := bel_trans E hb
    have K := (regs_none LieE w1).low E1.size
    clear g0 g1 g2 g3 g4 D HR HD E
    replace R4 := R4.later hb R4.lt
    replace R5 := R5.later hb R5.lt
    have hz := R5.lt
    clear hb
    have E2 := bel_trans E1 (bel_alloc w1 (.cells #[] 80))
    replace R4 := R4.alloc (.cells #[] 80)
    replace R5 := R5.alloc (.cells #[] 80)
    have f4 := R4.frozen 0
    have f5 := R5.frozen 0
    have c4 : (w1.alloc (.cells #[] 80)).cell? ⟨w.heap.size + 1, 0, none⟩ = some (.slice none 0 0) := R4.cell 0
    have c5 : (w1.alloc (.cells #[] 80)).cell? ⟨w.heap.size + 1 + 1, 0, none⟩ = some (.bool false) := R5.cell 0
    replace K := (regs_none LieE w1)
    gi_wp2
    refine ⟨_, results_cells2 Tryz.results131 _ _ rfl rfl (load_oneR (cell_set_other (cell_set_self c4) (by omega))) (load_oneB (cell_set_self (cell_set_other c5 (by omega)))), ?_⟩
    rw [hrep.out]
    exact ⟨w1.heap.size, 0, rfl, (RegsOwn.turn keepsLE (RegsOwn.turn keepsLE K (turns_cell5 _ (w.heap.size + 1) 0 _) (fun b e => by omega)) (turns_cell5 _ (w.heap.size + 1 + 1) 0 _) (fun b e => by omega)).low E1.size, (turns_cell5 _ (w.heap.size + 1 + 1) 0 _).below ((turns_cell5 _ (w.heap.size + 1) 0 _).below E2 (fun i e => by omega)) (fun i e => by omega)⟩
  obtain ⟨hs1, hs4⟩ := okB_sh hok
  obtain ⟨ns, hns⟩ : ∃ ns : Nat, g.sh = (ns : Int) := ⟨g.sh.toNat, by omega⟩
  have hnn : g.sh.toNat = ns := by omega
  have hns1 : ns ≤ 4 := by omega
  have hmk := fun W => run_make_regs (P := Tryz.prog) 101 80 Tryz.underlying101 Tryz.infoReg9 ns (by omega) W
  have HO := Lib.hid hok
  have HN := Lib.hid hnn
  have HS := Lib.hid hns
  clear hok hnn hns hs1 hs4
  gi_upto_region 3 with (refine ⟨trivial, ?_⟩; gi_at_call 175; refine (callsIn_wide.2 (groupB_is (show okB g.s g.l g.c g.sh g.zs = _ from HO.out) A n cap w0 HM.out HR.out.1)).mono ?_; rintro e w1 ⟨rfl, hb⟩)
  have E1 := bel_trans E hb
  have D1 := D.later hb D.lt
  have gn3 : w1.cell? ⟨w.heap.size, 3, none⟩ = some (.int .i64 (ns : Int)) := (D1.cell 3).trans (by rw [← HS.out]; rfl)
  replace HR := Lib.hid (RowF.later HR.out hb)
  replace HD := Lib.hid (HD.out.later hb)
  replace R4 := R4.later hb R4.lt
  replace R5 := R5.later hb R5.lt
  have hz5 := R5.lt
  clear g0 g1 g2 g3 g4 hb E D
  have K0 := regs_new LieE zeroE w1 ns
  have hb1 := bel_alloc w1 (.cells (madeCells #[.int .i64 0, .int .i64 0, .int .i64 0, .slice none 0 0, .slice none 0 0] (ns * 5)) 80)
  have hb2 := bel_alloc (w1.alloc (.cells (madeCells #[.int .i64 0, .int .i64 0, .int .i64 0, .slice none 0 0, .slice none 0 0] (ns * 5)) 80)) (.cells #[.slice (some ⟨w1.heap.size, 0, none⟩) ns ns] 101)
  have R6 := Box.new (w1.alloc (.cells (madeCells #[.int .i64 0, .int .i64 0, .int .i64 0, .slice none 0 0, .slice none 0 0] (ns * 5)) 80)) 101 #[.slice (some ⟨w1.heap.size, 0, none⟩) ns ns]
  rw [World.size_alloc] at R6
  have K := RegsOwn.later keepsLE K0 hb2
  have hb3 := bel_trans hb1 hb2
  have D2 := D1.later hb3 D1.lt
  have E2 := bel_trans E1 hb3
  replace HR := Lib.hid (RowF.later HR.out hb3)
  replace HD := Lib.hid (HD.out.later hb3)
  replace R4 := R4.later hb3 R4.lt
  replace R5 := R5.later hb3 R5.lt
  have hVG : w.heap.size + 1 + 1 < w1.heap.size := hz5
  gi_upto_region 4 with fail
  clear gn3 hmk hb1 hb2 hb3 D1 K0 E1
  generalize ((w1.alloc (.cells (madeCells #[.int .i64 0, .int .i64 0, .int .i64 0, .slice none 0 0, .slice none 0 0] (ns * 5)) 80)).alloc _ : World) = w2 at K R4 R5 R6 D2 E2 HR HD ⊢
  generalize w1.heap.size = G at K R6 hVG ⊢
  obtain ⟨g0, g1, g2, g3, g4⟩ := D2.five
  gi_wp2_with (refine ⟨trivial, ?_⟩; gi_at_call 177; refine (callsIn_wide.2 (recsOf_is g A n cap LA ln lc _)).mono ?_; rintro e w' ⟨rfl, rfl⟩)
  clear g0 g1 g2 g3 g4
  have hb0 : Below w2.heap.size w2 ((w2.alloc (.cells #[.int .i64 g.s, .int .i64 g.l, .int .i64 g.c, .int .i64 g.sh, .slice A n cap] 26)).alloc (.cells #[.slice LA ln lc] 27)) := bel_trans (bel_alloc w2 (.cells #[.int .i64 g.s, .int .i64 g.l, .int .i64 g.c, .int .i64 g.sh, .slice A n cap] 26)) (bel_alloc (w2.alloc (.cells #[.int .i64 g.s, .int .i64 g.l, .int .i64 g.c, .int .i64 g.sh, .slice A n cap] 26)) (.cells #[.slice LA ln lc] 27))
  have X2 := (Box.new w2 26 #[.int .i64 g.s, .int .i64 g.l, .int .i64 g.c, .int .i64 g.sh, .slice A n cap]).alloc (.cells #[.slice LA ln lc] 27)
  have X1 := Box.new (w2.alloc (.cells #[.int .i64 g.s, .int .i64 g.l, .int .i64 g.c, .int .i64 g.sh, .slice A n cap] 26)) 27 #[.slice LA ln lc]
  rw [World.size_alloc] at X1
  have hGB := R6.lt
  have IV : InvR g ds A n cap w G ns [] w2 := ⟨D2, R4, R5, R6, by unfold shI; rw [List.foldl_nil, HN.out]; exact K, fun k hk => (by cases hk), E2⟩
  replace IV := IV.later hb0
  replace HR := Lib.hid (RowF.later HR.out hb0)
  replace HD := Lib.hid (HD.out.later hb0)
  have hV := HVW.out.turn (T := fun _ => False) (Turns.of_below IV.E) (fun _ _ h => h)
  have hsB := hb0.size
  have hEs := E2.size
  have hx1 := X1.lt
  clear D2 R4 R5 R6 K E2 HD hb0
  generalize (((w2.alloc (.cells #[.int .i64 g.s, .int .i64 g.l, .int .i64 g.c, .int .i64 g.sh, .slice A n cap] 26)).alloc (.cells #[.slice LA ln lc] 27)) : World) = W0 at X1 X2 IV HR hV hsB hx1 ⊢
  generalize w2.heap.size = B at X1 X2 hGB hsB hEs hx1 ⊢
  have hGw : w.heap.size ≤ G := by omega
  have hmk4 : ∀ k, k < ds.length → m k ≤ 4194304 := fun k hk => by
    by_cases h0 : 0 < ln
    · obtain ⟨b, o, -, -, -, hc⟩ := hV.2 h0
      have h1 : (ds[k]).ps.length = m k := (hc k hk).2.2.1.1
      have h2 := totC_mem ds hk
      have h3 := HT.out
      omega
    · have := HL.out
      omega
  have hln : ln ≤ 1048576 := by
    have h := totC_len ds
    have h1 := HL.out
    have h2 := HT.out
    omega
  refine wpIn_rangeFunc_ownH rfl (by decide) (gf := 217) (lb := #[.pointer (some ⟨B + 1, 0, none⟩), .pointer (some ⟨B, 0, none⟩)]) rfl trivial (enters_of Tryz.func217 (by kernel_rfl) rfl)
    (recsIter_stops g ds A n cap LA ln lc L m mc (B + 1) B G W0.heap.size (· < w.heap.size) W0 (by omega) (by omega) (fun b hb => ⟨by omega, by omega⟩) X1 X2 HM.out HR.out hV hln hmk4) (fun h k => h.trans k) (fun W l o o' hl h hc _ => keepC_put W l o o' hl h hc) (Below.refl _ _) (fun _ => rfl)
    (fun pre W => InvR g ds A n cap w G ns pre W) (fun c _ W => c = .ret ∧ OutR g ds w W) (InvR.own (by omega)) (fun c => OutR.own (by omega) (fun _ => c = .ret)) IV
    (fun x a' W => ∃ Bx, G + 1 < Bx ∧ Box W Bx 46 (cellsC ds[x.val] (L x.val) (m x.val) (mc x.val)) ∧ a' = frmR g ds A n cap LA ln lc L m mc w G ns B x Bx)
    (fun x a' _ X Y row hs hg hr => by obtain ⟨Bx, h1, h2, h3⟩ := hs; exact ⟨Bx, h1, (cellsK_own hg (fun r e => (hr r e).2)).box h2, h3⟩)
    ?assign ?body ?done ?stop
  case assign =>
    rintro l pre x W K hi hK
    simp only [encC]
    have ZB := Box.new W 46 #[.int .i64 0, .int .i64 0, .int .i64 0, .int .i64 0, .int .i64 0, .int .i64 0, .int .i64 0, .slice none 0 0, .int .i64 0]
    have hn := bel_new_row W #[.int .i64 0, .int .i64 0, .int .i64 0, .int .i64 0, .int .i64 0, .int .i64 0, .int .i64 0, .slice none 0 0, .int .i64 0] 46 (cellsC ds[x.val] (L x.val) (m x.val) (mc x.val))
    have X := (Box.new W 46 #[.int .i64 0, .int .i64 0, .int .i64 0, .int .i64 0, .int .i64 0, .int .i64 0, .int .i64 0, .slice none 0 0, .int .i64 0]).setRow (cellsC ds[x.val] (L x.val) (m x.val) (mc x.val))
    have hlt := hi.R6.lt
    gi_wp2_with (refine wpListIn_store_row (fun _ => trivial) rfl 46 _ _ rfl W.heap.size (cellsC ds[x.val] (L x.val) (m x.val) (mc x.val)) rfl rfl 46 #[.int .i64 0, .int .i64 0, .int .i64 0, .int .i64 0, .int .i64 0, .int .i64 0, .int .i64 0, .slice none 0 0, .int .i64 0] ZB (by kernel_rfl) rfl (by simp [cellsC, Value.oneCell']) ?_)
    exact hK _ _ (keepsFrom_below hn) (KeepC.of_below hn) (hi.later hn) ⟨W.heap.size, hlt, X, rfl⟩
  case body =>
    rintro l pre x a' W hl - hi ⟨Bx, hBx, bX, rfl⟩ hlt
    unfold frmR
    obtain ⟨z, hz⟩ : ∃ z, isAt g ds x.val = z := ⟨_, rfl⟩
    rw [hz]
    rcases z with _ | _
    · skip
      have R4 := hi.R4.alloc (.cells #[] 80)
      have R5 := hi.R5.alloc (.cells #[] 80)
      have f4 := R4.frozen 0
      have f5 := R5.frozen 0
      have c4 : (W.alloc (.cells #[] 80)).cell? ⟨w.heap.size + 1, 0, none⟩ = some (.slice none 0 0) := R4.cell 0
      have c5 : (W.alloc (.cells #[] 80)).cell? ⟨w.heap.size + 1 + 1, 0, none⟩ = some (.bool false) := R5.cell 0
      have HI := Lib.hid hi
      have HZ := Lib.hid hz
      have hz5 := hi.R5.lt
      clear hi hz
      gi_wp2
      have hb := bel_alloc W (.cells #[] 80)
      have t1 := turns_cell5 (W.alloc (.cells #[] 80)) (w.heap.size + 1) 0 (.slice (some ⟨W.heap.size, 0, none⟩) 0 0)
      have t2 := turns_cell5 ((W.alloc (.cells #[] 80)).setCell ⟨w.heap.size + 1, 0, none⟩ (.slice (some ⟨W.heap.size, 0, none⟩) 0 0)) (w.heap.size + 1 + 1) 0 (.bool false)
      refine ⟨((keepsFrom_below hb).trans ((KeepsOthers.setCell _ _ _).from _)).trans ((KeepsOthers.setCell _ _ _).from _), rfl, ⟨⟨x, HZ.out⟩, ⟨W.heap.size, ?_, ?_, ?_, ?_⟩, ?_⟩⟩
      · exact (R4.set 0 (.slice (some ⟨W.heap.size, 0, none⟩) 0 0)).turn t2 (by omega)
      · exact (R5.turn t1 (by omega)).set 0 (.bool false)
      · exact RegsOwn.turn keepsLE (RegsOwn.turn keepsLE (regs_none LieE W) t1 (fun b e => by omega)) t2 (fun b e => by omega)
      · exact HI.out.E.size
      · exact t2.below (t1.below (bel_trans HI.out.E hb) (fun i e => by omega)) (fun i e => by omega)
    have hAt := isAt_lt (g := g) x.isLt
    have hVx := HVW.out.2 (by have := x.isLt; have := HL.out; omega)
    obtain ⟨b, o, -, -, -, hcell⟩ := hVx
    obtain ⟨-, -, hps⟩ := hcell x.val x.isLt
    clear hcell
    have hsz := shI_sz g ds (M := 1048576) (fun k hk => by have := totC_mem ds hk; have := HT.out; omega) pre
    have hmx := hmk4 x.val x.isLt
    have hsn := shI_snoc g ds pre x
    obtain ⟨d, hd⟩ : ∃ d : RecD, ds[x.val] = d := ⟨_, rfl⟩
    rw [hd] at hAt hps hsn bX ⊢
    obtain ⟨Lk, hLk⟩ : ∃ y, L x.val = y := ⟨_, rfl⟩
    obtain ⟨mk, hmkk⟩ : ∃ y, m x.val = y := ⟨_, rfl⟩
    obtain ⟨mck, hmck⟩ : ∃ y, mc x.val = y := ⟨_, rfl⟩
    rw [hLk, hmkk] at hps
    rw [hLk, hmkk, hmck] at bX ⊢
    rw [hmkk] at hmx
    rw [hz] at hAt
    have hrk : rokD g d = true := by
      have h := hAt.symm
      rw [Bool.and_eq_true] at h
      exact h.2
    obtain ⟨hr0, hr1, -, -⟩ := rok_shelf hrk
    obtain ⟨i, hi3⟩ : ∃ i : Nat, d.r3 = (i : Int) := ⟨d.r3.toNat, by omega⟩
    have hin : i < ns := by have := HS.out; omega
    have hit : d.r3.toNat = i := by omega
    have hil : i < (shI g ds pre).length := by rw [shI_len, HN.out]; exact hin
    replace hsz := hsz i
    rw [regOf_lt hil] at hsz
    unfold stepR at hsn
    rw [hit, regOf_lt hil] at hsn
    have hpl : pre.length ≤ 1048576 := by have := HL.out; omega
    obtain ⟨r, hr⟩ : ∃ r : RegD, (shI g ds pre)[i] = r := ⟨_, rfl⟩
    rw [hr] at hsz hsn
    obtain ⟨u0, v0, c0, c1, c2, c3, c4, hA⟩ := hreg keepsLE hi.K hil
    rw [hr] at c0 c1 c2 hA
    obtain ⟨P, p, pc, Q, q, qc, rfl, rfl, hS1, hS2, hl1, hl2⟩ := hA.slc
    unfold cellsC at bX ⊢
    rw [hi3] at bX ⊢
    have HPw := Lib.hid (hps.1.later hi.E)
    have HRx := Lib.hid ((RowF.later HRW.out hi.E)).1
    have HI := Lib.hid hi
    have HSN := Lib.hid hsn
    have HSZ := Lib.hid hsz
    have HI3 := Lib.hid hi3
    have HZ := Lib.hid hz
    have HS1 := Lib.hid hS1
    have HS2 := Lib.hid hS2
    have HL1 := Lib.hid hl1
    have HL2 := Lib.hid hl2
    have hltI : (i : Int) < (ns : Int) := by omega
    have S6 := hi.R6
    have SD := hi.D
    clear hi hsn hsz hi3 hz hS1 hS2 hl1 hl2 hA hd hLk hmkk hmck hps hr0 hr1 hit hAt hrk hr
    gi_upto_region 9 with fail
    have hb := (Below.refl W.heap.size W).drew
    have hgG : G < W.heap.size := by have := S6.lt; omega
    refine wpIn_region_sink 12 (fun w' => Box w' Bx 46 #[.int .i64 d.r1, .int .i64 d.r2, .int .i64 (i : Int), .int .i64 d.r4, .int .i64 d.r5, .int .i64 d.r6, .int .i64 d.r7, .slice Lk mk mck, .int .i64 d.r8] ∧ Box w' w.heap.size 26 #[.int .i64 g.s, .int .i64 g.l, .int .i64 g.c, .int .i64 g.sh, .slice A n cap] ∧ Box w' (G + 1) 101 #[.slice (some ⟨G, 0, none⟩) ns ns] ∧ w'.cell? ⟨G, i * 5, none⟩ = some (.int .i64 r.t) ∧ w'.cell? ⟨G, i * 5 + 1, none⟩ = some (.int .i64 r.q) ∧ w'.cell? ⟨G, i * 5 + 2, none⟩ = some (.int .i64 r.v) ∧ w'.cell? ⟨G, i * 5 + 3, none⟩ = some (.slice P p pc) ∧ w'.cell? ⟨G, i * 5 + 4, none⟩ = some (.slice Q q qc)) (by kernel_rfl) ⟨bX.later hb bX.lt, SD.later hb SD.lt, S6.later hb S6.lt, c0, c1, c2, c3, c4⟩ (fun hH => ?_)
    have HB := Lib.hid hb
    replace HI := Lib.hid (HI.out.later hb)
    replace HPw := Lib.hid (HPw.out.later hb)
    replace HRx := Lib.hid ((HRx.out.below hb (Nat.le_refl _)).more hb.size)
    replace HS1 := Lib.hid (HS1.out.later hb)
    replace HS2 := Lib.hid (HS2.out.later hb)
    clear hb bX SD S6 c0 c1 c2 c3 c4
    generalize W.drew = w3 at HI HB HPw HRx HS1 HS2 hH ⊢
    refine wpAnyEI_takeP [] (plain_of (fun _ => trivial) (by kernel_rfl)) (i := 0) (v := .slice (some ⟨G, 0, none⟩) ns ns) (by simp only [List.getElem?_toArray, List.getElem?_cons_zero]; rfl) (by kernel_rfl) (by kernel_rfl) (by kernel_rfl) (by exact fun _ _ _ h => h) (by kernel_rfl) (Or.inl ⟨(by first | rfl | simp [Region.wanted, yielded] | (simp [Region.wanted, yielded, Act.put] <;> omega)), ?y0⟩) hH ?_
    case y0 => (intro w' hSw; have h0 : w'.cell? ⟨G + 1, 0, none⟩ = some (.slice (some ⟨G, 0, none⟩) ns ns) := hSw.2.2.1.cell 0; clear hSw; go_simp; try with_reducible rfl)
    try simp only [Act.put, List.setIfInBounds_toArray, List.set_cons_zero, List.set_cons_succ]
    refine wpAnyEI_pure (plain_of (fun _ => trivial) (by kernel_rfl)) (i := 1) (v := ?vu1_1) (by simp only [List.getElem?_toArray, List.getElem?_cons_succ, List.getElem?_cons_zero]; rfl) (by kernel_rfl) (by kernel_rfl) (by kernel_rfl) (by exact fun _ _ _ h => h) (by kernel_rfl) (Or.inl ⟨by rfl, ?yu1_1⟩) hH ?_
    case yu1_1 => (intro w' hSw; (try dsimp only at hSw); clear hSw; go_simp; try with_reducible rfl)
    try simp only [Act.put, List.setIfInBounds_toArray, List.set_cons_zero, List.set_cons_succ]
    refine wpAnyEI_takeP [] (plain_of (fun _ => trivial) (by kernel_rfl)) (i := 2) (v := .int .i64 (i : Int)) (by simp only [List.getElem?_toArray, List.getElem?_cons_succ, List.getElem?_cons_zero]; rfl) (by kernel_rfl) (by kernel_rfl) (by kernel_rfl) (by exact fun _ _ _ h => h) (by kernel_rfl) (Or.inl ⟨(by first | rfl | simp [Region.wanted, yielded] | (simp [Region.wanted, yielded, Act.put] <;> omega)), ?y2⟩) hH ?_
    case y2 => (intro w' hSw; have h2 : w'.cell? ⟨Bx, 2, none⟩ = some (.int .i64 (i : Int)) := hSw.1.cell 2; clear hSw; go_simp; try with_reducible rfl)
    try simp only [Act.put, List.setIfInBounds_toArray, List.set_cons_zero, List.set_cons_succ]
    refine wpAnyEI_takeP [] (plain_of (fun _ => trivial) (by kernel_rfl)) (i := 3) (v := .agg #[.int .i64 d.r1, .int .i64 d.r2, .int .i64 (i : Int), .int .i64 d.r4, .int .i64 d.r5, .int .i64 d.r6, .int .i64 d.r7, .slice Lk mk mck, .int .i64 d.r8]) (by simp only [List.getElem?_toArray, List.getElem?_cons_succ, List.getElem?_cons_zero]; rfl) (by kernel_rfl) (by kernel_rfl) (by kernel_rfl) (by exact fun _ _ _ h => h) (by kernel_rfl) ?y3 hH ?_
    case y3 => exact yields_box 46 _ rfl (Bx) rfl 46 #[.int .i64 d.r1, .int .i64 d.r2, .int .i64 (i : Int), .int .i64 d.r4, .int .i64 d.r5, .int .i64 d.r6, .int .i64 d.r7, .slice Lk mk mck, .int .i64 d.r8] (fun _ h => h.1) _ Tryz.underlying46 rfl (by kernel_rfl) (by first | rfl | simp [Region.wanted, yielded] | (simp [Region.wanted, yielded, Act.put] <;> omega))
    try simp only [Act.put, List.setIfInBounds_toArray, List.set_cons_zero, List.set_cons_succ]
    refine wpAnyEI_takeP [] (plain_of (fun _ => trivial) (by kernel_rfl)) (i := 4) (v := .agg #[.int .i64 g.s, .int .i64 g.l, .int .i64 g.c, .int .i64 g.sh, .slice A n cap]) (by simp only [List.getElem?_toArray, List.getElem?_cons_succ, List.getElem?_cons_zero]; rfl) (by kernel_rfl) (by kernel_rfl) (by kernel_rfl) (by exact fun _ _ _ h => h) (by kernel_rfl) ?y4 hH ?_
    case y4 => exact yields_box 26 _ rfl (w.heap.size) rfl 26 #[.int .i64 g.s, .int .i64 g.l, .int .i64 g.c, .int .i64 g.sh, .slice A n cap] (fun _ h => h.2.1) _ Tryz.underlying26 rfl (by kernel_rfl) (by first | rfl | simp [Region.wanted, yielded] | (simp [Region.wanted, yielded, Act.put] <;> omega))
    try simp only [Act.put, List.setIfInBounds_toArray, List.set_cons_zero, List.set_cons_succ]
    refine wpAnyEI_takeP [] (plain_of (fun _ => trivial) (by kernel_rfl)) (i := 5) (v := .slice (some ⟨G, 0, none⟩) ns ns) (by simp only [List.getElem?_toArray, List.getElem?_cons_succ, List.getElem?_cons_zero]; rfl) (by kernel_rfl) (by kernel_rfl) (by kernel_rfl) (by exact fun _ _ _ h => h) (by kernel_rfl) (Or.inl ⟨(by first | rfl | simp [Region.wanted, yielded] | (simp [Region.wanted, yielded, Act.put] <;> omega)), ?y5⟩) hH ?_
    case y5 => (intro w' hSw; have h0 : w'.cell? ⟨G + 1, 0, none⟩ = some (.slice (some ⟨G, 0, none⟩) ns ns) := hSw.2.2.1.cell 0; clear hSw; go_simp; try with_reducible rfl)
    try simp only [Act.put, List.setIfInBounds_toArray, List.set_cons_zero, List.set_cons_succ]
    refine wpAnyEI_pure (plain_of (fun _ => trivial) (by kernel_rfl)) (i := 6) (v := ?vu6_2) (by simp only [List.getElem?_toArray, List.getElem?_cons_succ, List.getElem?_cons_zero]; rfl) (by kernel_rfl) (by kernel_rfl) (by kernel_rfl) (by exact fun _ _ _ h => h) (by kernel_rfl) (Or.inl ⟨by rfl, ?yu6_2⟩) hH ?_
    case yu6_2 => (intro w' hSw; (try dsimp only at hSw); clear hSw; go_simp; try with_reducible rfl)
    try simp only [Act.put, List.setIfInBounds_toArray, List.set_cons_zero, List.set_cons_succ]
    refine wpAnyEI_takeP [] (plain_of (fun _ => trivial) (by kernel_rfl)) (i := 7) (v := .int .i64 (i : Int)) (by simp only [List.getElem?_toArray, List.getElem?_cons_succ, List.getElem?_cons_zero]; rfl) (by kernel_rfl) (by kernel_rfl) (by kernel_rfl) (by exact fun _ _ _ h => h) (by kernel_rfl) (Or.inl ⟨(by first | rfl | simp [Region.wanted, yielded] | (simp [Region.wanted, yielded, Act.put] <;> omega)), ?y7⟩) hH ?_
    case y7 => (intro w' hSw; have h2 : w'.cell? ⟨Bx, 2, none⟩ = some (.int .i64 (i : Int)) := hSw.1.cell 2; clear hSw; go_simp; try with_reducible rfl)
    try simp only [Act.put, List.setIfInBounds_toArray, List.set_cons_zero, List.set_cons_succ]
    refine wpAnyEI_pure (plain_of (fun _ => trivial) (by kernel_rfl)) (i := 8) (v := ?vu8_3) (by simp only [List.getElem?_toArray, List.getElem?_cons_succ, List.getElem?_cons_zero]; rfl) (by kernel_rfl) (by kernel_rfl) (by kernel_rfl) (by exact fun _ _ _ h => h) (by kernel_rfl) (Or.inl ⟨by rfl, ?yu8_3⟩) hH ?_
    case yu8_3 => (intro w' hSw; (try dsimp only at hSw); clear hSw; go_simp; try with_reducible rfl)
    try simp only [Act.put, List.setIfInBounds_toArray, List.set_cons_zero, List.set_cons_succ]
    refine wpAnyEI_takeP [] (plain_of (fun _ => trivial) (by kernel_rfl)) (i := 9) (v := .agg #[.int .i64 r.t, .int .i64 r.q, .int .i64 r.v, .slice P p pc, .slice Q q qc]) (by simp only [List.getElem?_toArray, List.getElem?_cons_succ, List.getElem?_cons_zero]; rfl) (by kernel_rfl) (by kernel_rfl) (by kernel_rfl) (by exact fun _ _ _ h => h) (by kernel_rfl) (Or.inl ⟨(by first | rfl | simp [Region.wanted, yielded] | (simp [Region.wanted, yielded, Act.put] <;> omega)), ?y9⟩) hH ?_
    case y9 => (intro w' hSw; have k0 := hSw.2.2.2.1; have k1 := hSw.2.2.2.2.1; have k2 := hSw.2.2.2.2.2.1; have k3 := hSw.2.2.2.2.2.2.1; have k4 := hSw.2.2.2.2.2.2.2; clear hSw; go_simp; try with_reducible rfl)
    try simp only [Act.put, List.setIfInBounds_toArray, List.set_cons_zero, List.set_cons_succ]
    refine wpAnyEI_one (i := 10) (by kernel_rfl) (by simp only [List.getElem?_toArray, List.getElem?_cons_succ, List.getElem?_cons_zero]; rfl) (fun K' hK => ?_)
    have HH := Lib.hid hH
    clear hH
    have HON := Lib.hid (onto_is g d r A n cap Lk mk mck P p pc Q q qc w3 HM.out HRx.out hmx HPw.out HS1.out HS2.out (by have := HSZ.out; omega) (by have := HSZ.out; omega) HL1.out HL2.out)
    replace HON := Lib.hid (HI3.out ▸ HON.out)
    go_simp
    refine ⟨trivial, ?_⟩
    refine (CallsIn.inRound l (callsIn_wide.2 HON.out)).mono ?_
    rintro e w4 ⟨u', v', rfl, hL, hb⟩
    obtain ⟨DD, hDD⟩ : ∃ DD : RegD, ontoD g d r = DD := ⟨_, rfl⟩
    replace HSN := HSN.out
    rw [hDD] at hL HSN ⊢
    replace HSN := Lib.hid HSN
    clear hDD HON
    have hL := hL.lieE
    obtain ⟨A1, n1, c1', A2, n2', c2', rfl, rfl, -, -, -, -⟩ := hL.slc
    have K4 := Lib.hid (RegsOwn.put keepsLE HI.out.K hb hil hL)
    have fG : ∀ o, w4.frozen? ⟨G, o, none⟩ = false := by
      obtain ⟨_, Fs, h, _⟩ := RegsOwn.later keepsLE HI.out.K hb
      exact h.frozen
    have hG3 : G < w3.heap.size := by have := HB.out.size; omega
    have hcG : ∀ o y, w3.cell? ⟨G, o, none⟩ = some y → w4.cell? ⟨G, o, none⟩ = some y := fun o y h => (hb.cell (p := ⟨G, o, none⟩) hG3).trans h
    obtain ⟨q1, q2, q3, q4, q5, q6, q7, q8⟩ := HH.out
    have n0 := hcG _ _ q4
    have n1 := hcG _ _ q5
    have n2 := hcG _ _ q6
    have n3 := hcG _ _ q7
    have n4 := hcG _ _ q8
    have hI4 := Lib.hid (InvR.later HI.out hb)
    have hBW := Lib.hid (bel_trans HB.out hb)
    refine hK.out _ _ ⟨q1.later hb q1.lt, q2.later hb q2.lt, q3.later hb q3.lt, n0, n1, n2, n3, n4⟩ (fun hH => ?_)
    clear hK K' HH hb hcG q1 q2 q3 q4 q5 q6 q7 q8 hL HI HB
    try simp only [Act.put, List.setIfInBounds_toArray, List.set_cons_zero, List.set_cons_succ]
    refine wpAnyEI_pure (plain_of (fun _ => trivial) (by kernel_rfl)) (i := 11) (v := ?vu11_4) (by simp only [List.getElem?_toArray, List.getElem?_cons_succ, List.getElem?_cons_zero]; rfl) (by kernel_rfl) (by kernel_rfl) (by kernel_rfl) (by exact fun _ _ _ h => h) (by kernel_rfl) (Or.inl ⟨by rfl, ?yu11_4⟩) hH ?_
    case yu11_4 => (intro w' hSw; (try dsimp only at hSw); clear hSw; go_simp; try with_reducible rfl)
    try simp only [Act.put, List.setIfInBounds_toArray, List.set_cons_zero, List.set_cons_succ]
    refine wpAnyEI_last (by kernel_rfl) (by simp only [List.getElem?_toArray, List.getElem?_cons_succ, List.getElem?_cons_zero]; rfl) (by kernel_rfl) (fun K' hK => ?_)
    go_simp
    refine hK.out _ _ ?_
    clear hK K' hH
    try simp only [Act.put, List.setIfInBounds_toArray, List.set_cons_zero, List.set_cons_succ]
    clear n0 n1 n2 n3 n4 fG
    gi_wp2
    refine ⟨KeepsFrom.of_grownBy (grownG5 hBW.out G _ _ _ _ _) (fun j e => by cases e; omega), (KeepC.of_below hBW.out).trans (KeepC.of_turns (turns_row5 w4 G _ _ _ _ _) (fun i e => e)), hI4.out.put (turns_row5 w4 G _ _ _ _ _) hVG (by rw [HSN.out]; exact K4.out) (fun k hk => ?_)⟩
    rcases List.mem_append.1 hk with hk | hk
    · exact hI4.out.all k hk
    · rw [List.mem_singleton] at hk
      rw [hk]
      exact HZ.out
  case done =>
    rintro D' xs W hD rfl hi hK
    have c4 : W.cell? ⟨w.heap.size + 1, 0, none⟩ = some (.slice none 0 0) := hi.R4.cell 0
    have c5 : W.cell? ⟨w.heap.size + 1 + 1, 0, none⟩ = some (.bool false) := hi.R5.cell 0
    have f4 := hi.R4.frozen 0
    have f5 := hi.R5.frozen 0
    have c6 : W.cell? ⟨G + 1, 0, none⟩ = some (.slice (some ⟨G, 0, none⟩) ns ns) := hi.R6.cell 0
    have HI := Lib.hid hi
    have HK := Lib.hid hK
    clear hi hK
    gi_wp2
    have hK1 := (((KeepsOthers.setCell W ⟨w.heap.size + 1, 0, none⟩ (.slice (some ⟨G, 0, none⟩) ns ns)).trans (KeepsOthers.setCell _ ⟨w.heap.size + 1 + 1, 0, none⟩ (.bool true)))).same _ _ HK.out rfl
    refine ⟨by simp, .inl ⟨_, _, rfl, run_takeDeferred hK1, ?_⟩⟩
    have hg := grownBy_putObj' ((W.setCell ⟨w.heap.size + 1, 0, none⟩ (.slice (some ⟨G, 0, none⟩) ns ns)).setCell ⟨w.heap.size + 1 + 1, 0, none⟩ (.bool true)) D' (.deferred none)
    have hk := cellsK_own hg (fun r e => by cases e; exact ⟨_, hK1, rfl⟩)
    refine ⟨_, results_cells2 Tryz.results131 _ _ rfl rfl (load_oneR (hk.cell (cell_set_other (cell_set_self c4) (by omega)))) (load_oneB (hk.cell (cell_set_self (cell_set_other c5 (by omega))))), ?_⟩
    have hrep : replD g ds = (shelves g ds, true) := by
      unfold replD
      rw [HO.out, allAt_true (fun i hi => HI.out.all ⟨i, hi⟩ (List.mem_finRange _))]
      rfl
    have hsl : (shelves g ds).length = ns := by rw [shelves_len]; exact HN.out
    rw [hrep]
    have K1 := HI.out.K
    rw [shI_all] at K1
    have K2 := (RegsOwn.turn keepsLE (RegsOwn.turn keepsLE K1 (turns_cell5 _ (w.heap.size + 1) 0 (.slice (some ⟨G, 0, none⟩) ns ns)) (fun b e => by omega)) (turns_cell5 _ (w.heap.size + 1 + 1) 0 (.bool true)) (fun b e => by omega)).cells hk
    have hB := (turns_cell5 _ (w.heap.size + 1 + 1) 0 (.bool true)).below ((turns_cell5 W (w.heap.size + 1) 0 (.slice (some ⟨G, 0, none⟩) ns ns)).below HI.out.E (fun i e => by omega)) (fun i e => by omega)
    exact ⟨G, ns, by rw [hsl], K2.low hGw, hB.grown hg hB.size (fun k e => by cases e; omega)⟩
  case stop =>
    rintro D' c pre W hD hS ⟨rfl, ho⟩ hK
    gi_wp2
    refine ⟨by simp, .inl ⟨_, _, rfl, run_takeDeferred hK, ?_⟩⟩
    have hg := grownBy_putObj' W D' (.deferred none)
    have hk := cellsK_own hg (fun r e => by cases e; exact ⟨_, hK, rfl⟩)
    obtain ⟨E0, h1, h2, h3, h4⟩ := ho.res
    refine ⟨_, results_cells2 Tryz.results131 _ _ rfl rfl (load_oneR (hk.cell (h1.cell 0))) (load_oneB (hk.cell (h2.cell 0))), ?_⟩
    obtain ⟨k, hk0⟩ := ho.no
    have hrep : replD g ds = ([], false) := by unfold replD; rw [allAt_false k.isLt hk0, Bool.and_false]; rfl
    rw [hrep]
    exact ⟨E0, 0, rfl, (h3.cells hk).low h4, ho.E.grown hg ho.E.size (fun k e => by cases e; omega)⟩
end Go.Proofs.YtjdepjpjjgkmbaaGreat

/- Both Replayed as a law meets them: over a copy of a group and a list of records, read; conditions: the sizes. -/
namespace Go.Proofs.YtjdepjpjjgkmbaaGreat
open Go Go.RowKit

theorem replayed8_is {g : GrpD} {ds : List RecD} {w : World} {F0 : Nat → Prop} {C0 : Array Value} {LA : Option Addr} {ln lc : Nat} (h0 : AtG g w F0 (.agg C0)) (h1 : RecsF ds w (· < w.heap.size) LA ln) (hz : totC ds ≤ 1048576) :
    Calls Tryz.prog 131 #[.agg C0, .slice LA ln lc] w (MadeReps LieE (replD g ds).1 (replD g ds).2 w) := by
  obtain ⟨A, n, cap, e0, m0, hr⟩ := h0
  injection e0 with e0
  subst e0
  exact replayed_is g ds A n cap LA ln lc w m0 hr.1 h1 hz
end Go.Proofs.YtjdepjpjjgkmbaaGreat

/- All records of a journal, in one list; a journal that is right: what it and the model answer (written by jour_ok.py); conditions: the sizes. -/
namespace Go.Proofs.YtjdepjpjjgkmbaaGreat
open Go Go.RowKit

/-- A journal whose lists lie somewhere. -/
def AtS9 (d : JourD) (w : World) (F : Nat → Prop) (v : Value) : Prop := ∃ u u', v = .agg #[u, u'] ∧ ListS d.ks w F u ∧ ListS d.ls w F u'
theorem keepsS9 (d : JourD) : Keeps (AtS9 d) := ⟨fun ⟨u, u', e, h1, h2⟩ ht hd => ⟨u, u', e, h1.turn ht hd, h2.turn ht hd⟩, fun ⟨u, u', e, h1, h2⟩ hs => ⟨u, u', e, h1.sub hs, h2.sub hs⟩⟩
theorem LieJ.somewhere {d : JourD} {w : World} {F : Nat → Prop} {v : Value} (h : LieJ d w F v) : AtS9 d w F v := by
  obtain ⟨u, u', F1, F2, e, h1, h2, s1, s2, -⟩ := h
  exact ⟨u, u', e, h1.list.sub s1, h2.list.sub s2⟩
theorem AtS9.at {d : JourD} {w : World} {F : Nat → Prop} {v : Value} (h : AtS9 d w F v) : AtJ d w F v := by
  obtain ⟨u, u', rfl, h1, h2⟩ := h
  obtain ⟨A, c, rfl, m1, r1⟩ := h1.at
  obtain ⟨A', c', rfl, m2, r2⟩ := h2.at
  exact ⟨A, _, c, A', _, c', rfl, m1, m2, r1, r2⟩
theorem totC_app (a b : List RecD) : totC (a ++ b) = totC a + totC b := by
  unfold totC
  rw [List.map_append, List.sum_append]
/-- The list of a row of one's own, two lists one behind the other. -/
theorem row_two {w w' : World} {u : Value} {ms ms' : List (RecD × Value)} {ks ls : List RecD} {F : Nat → Prop} {t : TypeId} (hm : ms.map (·.1) = ks) (hm' : ms'.map (·.1) = ls) (h : w'.ownsRow w.heap.size t 9 u (ks.length + ls.length) (flatC ms ++ flatC ms')) (h1 : CertsF w F ms) (h2 : CertsF w F ms') (hb : Below w.heap.size w w') : ListS (ks ++ ls) w' (fun b => F b ∨ w.heap.size ≤ b) u := by
  have hc := ((h1.app h2).later hb).sub (F' := fun b => F b ∨ w.heap.size ≤ b) (fun b hb => .inl hb)
  have e : (ms ++ ms').map (·.1) = ks ++ ls := by rw [List.map_append, hm, hm']
  rw [← flatC_app] at h
  rw [← e]
  exact row_list h (by rw [← List.length_map (f := fun x : RecD × Value => x.1), e, List.length_append]) hc (fun b hb _ => .inr hb)

set_option maxRecDepth 100000 in
set_option maxHeartbeats 4000000 in
theorem regs_is {g : GrpD} {d : JourD} {w : World} {F0 F1 : Nat → Prop} {C0 C1 : Array Value} (h0 : AtG g w F0 (.agg C0)) (h1 : AtS9 d w F1 (.agg C1)) (hs : d.sz ≤ 1048576) {rr : List RegD × Bool} (hrr : replD g (d.ks ++ d.ls) = rr) :
    Calls Tryz.prog 73 #[.agg C1, .agg C0] w (MadeReps LieE rr.1 rr.2 w) := by
  have HRR := Lib.hid hrr
  clear hrr
  have hst : totC (d.ks ++ d.ls) ≤ 1048576 := by rw [totC_app]; exact hs
  have J0 := Lib.hid (sizeG h0).2
  have hb0 := bel_trans (bel_alloc w (.cells C1 29)) (bel_alloc _ (.cells C0 26))
  have J := (Box.new w 29 C1).alloc (.cells C0 26)
  have G := Box.new (w.alloc (.cells C1 29)) 26 C0
  simp only [World.size_alloc] at G
  have H0 := Lib.hid ((keepsG g).later h0 hb0)
  have H1 := (keepsS9 d).later h1 hb0
  clear h0 h1
  obtain ⟨u, u', e, h2, h3⟩ := H1
  injection e with e
  subst e
  obtain ⟨ms, hm, hc, hx⟩ := h2.lt.src
  obtain ⟨ms', hm', hc', hx'⟩ := h3.lt.src
  obtain ⟨A1, c1, rfl, -, -⟩ := h2.at
  obtain ⟨A2, c2, rfl, -, -⟩ := h3.at
  have hl2 : d.ks.length + d.ls.length ≤ 2097152 := by have := totC_len d.ks; have := totC_len d.ls; unfold JourD.sz at hs; omega
  have hf := Lib.hid hm
  have hf' := Lib.hid hm'
  have HC := Lib.hid hc
  have HC' := Lib.hid hc'
  obtain ⟨X, hX⟩ : ∃ K, flatC ms = K := ⟨_, rfl⟩
  obtain ⟨X', hX'⟩ : ∃ K, flatC ms' = K := ⟨_, rfl⟩
  rw [hX] at hx
  rw [hX'] at hx'
  have HX := Lib.hid hX
  have HX' := Lib.hid hX'
  clear hm hm' hc hc' hX hX' h2 h3
  go_enter Tryz.func73, Tryz.ntmps73
  go_upto_region 1 with fail
  generalize ((w.alloc _).alloc _ : World) = w0 at hb0 G J H0 HC HC' hx hx' ⊢
  have hw0 := hb0.size
  have HB := Below.refl w0.heap.size w0
  refine wp_region_sink 12 (fun w' => Box w' (w.heap.size + 1) 26 C0 ∧ Box w' w.heap.size 29 #[.slice A1 d.ks.length c1, .slice A2 d.ls.length c2]) (by kernel_rfl) ⟨G, J⟩ (fun hH => ?_)
  have hb := (Below.refl w0.heap.size w0).drew
  replace HB := bel_trans HB hb
  replace G := G.later hb G.lt
  replace J := J.later hb J.lt
  clear hb
  generalize w0.drew = w3 at G J HB hH ⊢
  refine wpAnyE_takeS (i := 0) (v := .agg C0) (by simp only [List.getElem?_toArray, List.getElem?_cons_zero]; rfl) (by kernel_rfl) (by kernel_rfl) (by kernel_rfl) (by exact fun _ _ _ h => h) (by kernel_rfl) ?yg0 hH ?_
  case yg0 => exact yields_box 26 _ rfl ((w.heap.size + 1)) rfl 26 C0 (fun _ h => h.1) _ Tryz.underlying26 rfl J0.out (by first | rfl | simp [Region.wanted, yielded] | (simp [Region.wanted, yielded, Act.put] <;> omega))
  try simp only [Act.put, List.setIfInBounds_toArray, List.set_cons_zero, List.set_cons_succ]
  refine wpAnyE_pure (i := 1) (v := ?vp1) (by simp only [List.getElem?_toArray, List.getElem?_cons_succ, List.getElem?_cons_zero]; rfl) (by kernel_rfl) (by kernel_rfl) (by kernel_rfl) (by exact fun _ _ _ h => h) (by kernel_rfl) (Or.inl ⟨by rfl, ?yp1⟩) hH ?rp1
  case yp1 => (intro w' hSw; (try dsimp only at hSw); go_simp; try with_reducible rfl)
  try simp only [Act.put, List.setIfInBounds_toArray, List.set_cons_zero, List.set_cons_succ]
  refine wpAnyE_takeS (i := 2) (v := (.slice A1 d.ks.length c1)) (by simp only [List.getElem?_toArray, List.getElem?_cons_succ, List.getElem?_cons_zero]; rfl) (by kernel_rfl) (by kernel_rfl) (by kernel_rfl) (by exact fun _ _ _ h => h) (by kernel_rfl) ?yc2 hH ?_
  case yc2 => exact .inl ⟨(by first | rfl | simp [Region.wanted, yielded] | (simp [Region.wanted, yielded, Act.put] <;> omega)), fun w' hSw => by (try dsimp only at hSw); have hc := (Box.two hSw.2).1; go_simp; try with_reducible rfl⟩
  try simp only [Act.put, List.setIfInBounds_toArray, List.set_cons_zero, List.set_cons_succ]
  refine wpAnyE_pure (i := 3) (v := ?vp3) (by simp only [List.getElem?_toArray, List.getElem?_cons_succ, List.getElem?_cons_zero]; rfl) (by kernel_rfl) (by kernel_rfl) (by kernel_rfl) (by exact fun _ _ _ h => h) (by kernel_rfl) (Or.inl ⟨by rfl, ?yp3⟩) hH ?rp3
  case yp3 => (intro w' hSw; (try dsimp only at hSw); go_simp; try with_reducible rfl)
  try simp only [Act.put, List.setIfInBounds_toArray, List.set_cons_zero, List.set_cons_succ]
  refine wpAnyE_takeS (i := 4) (v := (.slice A2 d.ls.length c2)) (by simp only [List.getElem?_toArray, List.getElem?_cons_succ, List.getElem?_cons_zero]; rfl) (by kernel_rfl) (by kernel_rfl) (by kernel_rfl) (by exact fun _ _ _ h => h) (by kernel_rfl) ?yc4 hH ?_
  case yc4 => exact .inl ⟨(by first | rfl | simp [Region.wanted, yielded] | (simp [Region.wanted, yielded, Act.put] <;> omega)), fun w' hSw => by (try dsimp only at hSw); have hc := (Box.two hSw.2).2; go_simp; try with_reducible rfl⟩
  try simp only [Act.put, List.setIfInBounds_toArray, List.set_cons_zero, List.set_cons_succ]
  refine wpAnyE_one (i := 5) (by kernel_rfl) (by simp only [List.getElem?_toArray, List.getElem?_cons_succ, List.getElem?_cons_zero]; rfl) (fun K hK => ?_)
  go_simp
  have hn := bel_alloc w3 (.cells #[.slice A1 d.ks.length c1, .slice A2 d.ls.length c2] 27)
  have Q := Box.new w3 27 #[.slice A1 d.ks.length c1, .slice A2 d.ls.length c2]
  replace G := G.alloc (.cells #[.slice A1 d.ks.length c1, .slice A2 d.ls.length c2] 27)
  replace J := J.alloc (.cells #[.slice A1 d.ks.length c1, .slice A2 d.ls.length c2] 27)
  replace HB := bel_trans HB hn
  clear hn
  clear hH
  refine hK.out _ _ ⟨G, J⟩ (fun hH => ?_)
  clear hK K
  try simp only [Act.put, List.setIfInBounds_toArray, List.set_cons_zero, List.set_cons_succ]
  generalize w3.heap.size = q at Q ⊢
  generalize (w3.alloc _ : World) = w5 at G J HB Q hH ⊢
  refine wpAnyE_one (i := 6) (by kernel_rfl) (by simp only [List.getElem?_toArray, List.getElem?_cons_succ, List.getElem?_cons_zero]; rfl) (fun K hK => ?_)
  go_simp
  refine (concatRec_is _ _ _ _ _ X X' w5 hl2 Q (hx.later HB) (hx'.later HB)).mono ?_
  rintro e w6 ⟨v, rfl, hown, hb⟩
  replace G := G.later hb G.lt
  replace J := J.later hb J.lt
  have hw5 := HB.size
  have HB2 := bel_trans HB hb
  rw [← HX.out, ← HX'.out] at hown
  have hL := row_two hf.out hf'.out (ownLow hown hw5) HC.out HC'.out HB2
  have hL2 := hL.lt.sub (F' := (· < w6.heap.size)) (fun b hb => hb.2)
  obtain ⟨A, c, rfl, hmx, hr⟩ := hL2.at
  clear hL hL2 hown Q hb HB
  clear hH
  refine hK.out _ _ ⟨G, J⟩ (fun hH => ?_)
  clear hK K
  try simp only [Act.put, List.setIfInBounds_toArray, List.set_cons_zero, List.set_cons_succ]
  generalize (d.ks ++ d.ls).length = ln at hmx hr ⊢
  refine wpAnyE_one (i := 7) (by kernel_rfl) (by simp only [List.getElem?_toArray, List.getElem?_cons_succ, List.getElem?_cons_zero]; rfl) (fun K hK => ?_)
  go_simp
  have K0 := (keepsG g).later H0.out HB2
  refine (replayed8_is K0 hr hst).mono ?_
  rintro e w7 ⟨GG, cg, rfl, hO, hb⟩
  replace G := G.later hb G.lt
  replace J := J.later hb J.lt
  have E := bel_trans (bel_trans hb0 HB2) hb
  have O := Lib.hid (hO.low (bel_trans hb0 HB2).size)
  clear hb HB2 hr K0 hO
  rw [HRR.out] at O ⊢
  clear hH
  refine hK.out _ _ ⟨G, J⟩ (fun hH => ?_)
  clear hK K
  try simp only [Act.put, List.setIfInBounds_toArray, List.set_cons_zero, List.set_cons_succ]
  refine wpAnyE_pure (i := 8) (v := ?vq8) (by simp only [List.getElem?_toArray, List.getElem?_cons_succ, List.getElem?_cons_zero]; rfl) (by kernel_rfl) (by kernel_rfl) (by kernel_rfl) (by exact fun _ _ _ h => h) (by kernel_rfl) (Or.inl ⟨by rfl, ?yq8⟩) hH ?rq8
  case yq8 => (intro w' hSw; (try dsimp only at hSw); go_simp; try with_reducible rfl)
  try simp only [Act.put, List.setIfInBounds_toArray, List.set_cons_zero, List.set_cons_succ]
  refine wpAnyE_pure (i := 9) (v := ?vq9) (by simp only [List.getElem?_toArray, List.getElem?_cons_succ, List.getElem?_cons_zero]; rfl) (by kernel_rfl) (by kernel_rfl) (by kernel_rfl) (by exact fun _ _ _ h => h) (by kernel_rfl) (Or.inl ⟨by rfl, ?yq9⟩) hH ?rq9
  case yq9 => (intro w' hSw; (try dsimp only at hSw); go_simp; try with_reducible rfl)
  try simp only [Act.put, List.setIfInBounds_toArray, List.set_cons_zero, List.set_cons_succ]
  refine wpAnyE_pure (i := 10) (v := ?vq10) (by simp only [List.getElem?_toArray, List.getElem?_cons_succ, List.getElem?_cons_zero]; rfl) (by kernel_rfl) (by kernel_rfl) (by kernel_rfl) (by exact fun _ _ _ h => h) (by kernel_rfl) (Or.inl ⟨by rfl, ?yq10⟩) hH ?rq10
  case yq10 => (intro w' hSw; (try dsimp only at hSw); go_simp; try with_reducible rfl)
  try simp only [Act.put, List.setIfInBounds_toArray, List.set_cons_zero, List.set_cons_succ]
  refine wpAnyE_end (i := 11) (by kernel_rfl) (by simp only [List.getElem?_toArray, List.getElem?_cons_succ, List.getElem?_cons_zero]; rfl) (by kernel_rfl) (fun K hK => ?_)
  go_simp
  refine hK.out _ _ ⟨G, J⟩ ?_
  clear hK K hH G J
  try simp only [Act.put, List.setIfInBounds_toArray, List.set_cons_zero, List.set_cons_succ]
  go_wp2
  exact bodyPost_ret (v := .tuple #[.slice (some ⟨GG, 0, none⟩) rr.1.length cg, .bool rr.2]) (by simp [results, Tryz.results73, go_sem]) rfl ⟨_, _, rfl, O.out, E⟩
end Go.Proofs.YtjdepjpjjgkmbaaGreat

/- A new server, by the program and by the model: contracts of both (written by new_sv.py); conditions: the sizes. -/
namespace Go.Proofs.YtjdepjpjjgkmbaaGreat
open Go Go.RowKit

/-- A list of shelves of one's own: nil, or a block. -/
def SlR (P : RegD → World → (Nat → Prop) → Value → Prop) (w : World) (lo : Nat) (u : Value) (rs : List RegD) : Prop :=
  (u = .slice none 0 0 ∧ rs = []) ∨ ∃ G c, u = .slice (some ⟨G, 0, none⟩) rs.length c ∧ RegsOwn P w G lo rs
/-- A server whose journal and notes are empty. -/
def SvC (x : Int) (u : Value) : Array Value := #[.int .i64 x, u, .slice none 0 0, .slice none 0 0, .slice none 0 0]
def newSv (g : GrpD) (x : Int) : Int × List RegD × Bool := if srvB g.s g.l g.c g.sh g.zs x = true then (x, List.replicate g.sh.toNat zeroR, true) else (0, [], false)
def MadeSv (P : RegD → World → (Nat → Prop) → Value → Prop) (r : Int × List RegD × Bool) (w : World) (e : Ending) (w' : World) : Prop :=
  ∃ u, e = .returned (.tuple #[.agg (SvC r.1 u), .bool r.2.2]) ∧ SlR P w' w.heap.size u r.2.1 ∧ Below w.heap.size w w'
theorem srv_ok {g : GrpD} {x : Int} (h : srvB g.s g.l g.c g.sh g.zs x = true) : okG g = true := by
  unfold srvB at h
  unfold okG
  simp only [Bool.and_eq_true] at h
  exact h.1
theorem repl_none {g : GrpD} (h : okG g = true) : replD g [] = (List.replicate g.sh.toNat zeroR, true) := by
  unfold replD
  rw [h]
  rfl
theorem SlR.turn {P : RegD → World → (Nat → Prop) → Value → Prop} (kp : ∀ d, Keeps (P d)) {w w' : World} {lo : Nat} {u : Value} {rs : List RegD} {T : Nat → Prop} (h : SlR P w lo u rs) (ht : Turns T w w') (hT : ∀ b, T b → b < lo) : SlR P w' lo u rs := by
  rcases h with h | ⟨G, c, e, h⟩
  · exact .inl h
  · exact .inr ⟨G, c, e, RegsOwn.turn kp h ht hT⟩
theorem SlR.low {P : RegD → World → (Nat → Prop) → Value → Prop} {w : World} {lo lo' : Nat} {u : Value} {rs : List RegD} (h : SlR P w lo u rs) (hl : lo' ≤ lo) : SlR P w lo' u rs := by
  rcases h with h | ⟨G, c, e, h⟩
  · exact .inl h
  · exact .inr ⟨G, c, e, h.low hl⟩

theorem rowG9 {gd : GrpD} {w : World} {F : Nat → Prop} {a b c d : Int} {A : Option Addr} {n cap : Nat} (h : AtG gd w F (.agg #[.int .i64 a, .int .i64 b, .int .i64 c, .int .i64 d, .slice A n cap])) : Row w w.heap.size A n gd.zs := by
  obtain ⟨A', n', cap', e, -, hr⟩ := h
  injection e with e
  simp only [Array.mk.injEq, List.cons.injEq, Value.slice.injEq, and_true] at e
  obtain ⟨-, -, -, -, rfl, rfl, rfl⟩ := e
  exact hr.1
set_option maxRecDepth 100000 in
set_option maxHeartbeats 4000000 in
theorem serverBy_is {g : GrpD} {w : World} {F : Nat → Prop} {C0 : Array Value} (x : Int) (h0 : AtG g w F (.agg C0)) (hok : okG g = true) {rs : List RegD} (hrs : List.replicate g.sh.toNat zeroR = rs) :
    Calls Tryz.prog 119 #[.agg C0, .int .i64 x, .agg #[.slice none 0 0, .slice none 0 0]] w fun e w' => ∃ u, e = .returned (.agg (SvC x u)) ∧ SlR LieE w' w.heap.size u rs ∧ Below w.heap.size w w' := by
  obtain ⟨A, n, cap, e, hm, hr⟩ := h0
  injection e with e
  subst e
  have J0 : Hid ((Tryz.prog.info? 26).map (·.size) = some (#[.int .i64 g.s, .int .i64 g.l, .int .i64 g.c, .int .i64 g.sh, .slice A n cap] : Array Value).size) := Lib.hid (by kernel_rfl)
  have hb0 := bel_trans (bel_trans (bel_alloc w (.cells #[.int .i64 g.s, .int .i64 g.l, .int .i64 g.c, .int .i64 g.sh, .slice A n cap] 26)) (bel_alloc _ (.cells #[.slice none 0 0, .slice none 0 0] 29))) (bel_alloc _ (.cells #[.int .i64 0, .slice none 0 0, .slice none 0 0, .slice none 0 0, .slice none 0 0] 104))
  have B1 := ((Box.new w 26 #[.int .i64 g.s, .int .i64 g.l, .int .i64 g.c, .int .i64 g.sh, .slice A n cap]).alloc (.cells #[.slice none 0 0, .slice none 0 0] 29)).alloc (.cells #[.int .i64 0, .slice none 0 0, .slice none 0 0, .slice none 0 0, .slice none 0 0] 104)
  have B2 := (Box.new (w.alloc (.cells #[.int .i64 g.s, .int .i64 g.l, .int .i64 g.c, .int .i64 g.sh, .slice A n cap] 26)) 29 #[.slice none 0 0, .slice none 0 0]).alloc (.cells #[.int .i64 0, .slice none 0 0, .slice none 0 0, .slice none 0 0, .slice none 0 0] 104)
  have B3 := Box.new ((w.alloc (.cells #[.int .i64 g.s, .int .i64 g.l, .int .i64 g.c, .int .i64 g.sh, .slice A n cap] 26)).alloc (.cells #[.slice none 0 0, .slice none 0 0] 29)) 104 #[.int .i64 0, .slice none 0 0, .slice none 0 0, .slice none 0 0, .slice none 0 0]
  simp only [World.size_alloc] at B2 B3
  have H0 : AtG g ((((w.alloc (.cells #[.int .i64 g.s, .int .i64 g.l, .int .i64 g.c, .int .i64 g.sh, .slice A n cap] 26)).alloc (.cells #[.slice none 0 0, .slice none 0 0] 29)).alloc (.cells #[.int .i64 0, .slice none 0 0, .slice none 0 0, .slice none 0 0, .slice none 0 0] 104))) F (.agg #[.int .i64 g.s, .int .i64 g.l, .int .i64 g.c, .int .i64 g.sh, .slice A n cap]) := (keepsG g).later ⟨A, n, cap, rfl, hm, hr⟩ hb0
  clear hr
  go_enter Tryz.func119, Tryz.ntmps119
  go_upto_region 1 with fail
  generalize (((w.alloc _).alloc _).alloc _ : World) = w0 at hb0 B1 B2 B3 H0 ⊢
  go_wp2_with (first | (refine wpList_load_box 29 _ rfl (w.heap.size + 1) rfl 29 #[.slice none 0 0, .slice none 0 0] B2 _ Tryz.underlying29 rfl (by kernel_rfl) (by first | rfl | simp [Region.wanted, yielded] | (simp [Region.wanted, yielded, Act.put] <;> omega)) ?_) | (refine wpList_load_box 26 _ rfl (w.heap.size) rfl 26 #[.int .i64 g.s, .int .i64 g.l, .int .i64 g.c, .int .i64 g.sh, .slice A n cap] B1 _ Tryz.underlying26 rfl J0.out (by first | rfl | simp [Region.wanted, yielded] | (simp [Region.wanted, yielded, Act.put] <;> omega)) ?_))
  refine (regs_is (d := ⟨[], []⟩) (F1 := fun _ => False) (C1 := #[.slice none 0 0, .slice none 0 0]) H0 ⟨.slice none 0 0, .slice none 0 0, rfl, .inl ⟨rfl, rfl⟩, .inl ⟨rfl, rfl⟩⟩ (Nat.zero_le _) (repl_none hok)).mono ?_
  rintro e w1 ⟨G, c, rfl, hO, hb⟩
  dsimp only at hO ⊢
  rw [hrs] at hO ⊢
  clear hrs
  have hv := hb0.size
  have hB3 := B3.lt
  replace B2 := B2.later hb B2.lt
  replace B3 := B3.later hb B3.lt
  replace hb0 := bel_trans hb0 hb
  clear hb B1 H0
  obtain ⟨j0, j1⟩ := B2.two
  have HO := Lib.hid (hO.turn keepsLE (turns_setRow w1 (w.heap.size + 1 + 1) (SvC x (.slice (some ⟨G, 0, none⟩) rs.length c))) (fun b e => by have e : b = w.heap.size + 1 + 1 := e; omega))
  have HE := Lib.hid ((turns_setRow w1 (w.heap.size + 1 + 1) (SvC x (.slice (some ⟨G, 0, none⟩) rs.length c))).below hb0 (fun i hi => by have e : i = w.heap.size + 1 + 1 := hi; omega))
  clear hO
  go_wp2_with (first | (refine wpList_load_box 29 _ rfl (w.heap.size + 1) rfl 29 #[.slice none 0 0, .slice none 0 0] B2 _ Tryz.underlying29 rfl (by kernel_rfl) (by first | rfl | simp [Region.wanted, yielded] | (simp [Region.wanted, yielded, Act.put] <;> omega)) ?_) | (refine wpList_store_row rfl 104 _ _ rfl (w.heap.size + 1 + 1) (SvC x (.slice (some ⟨G, 0, none⟩) rs.length c)) rfl rfl 104 #[.int .i64 0, .slice none 0 0, .slice none 0 0, .slice none 0 0, .slice none 0 0] B3 (by kernel_rfl) rfl (by simp [SvC, Value.oneCell']) ?_))
  replace B3 := B3.setRow (SvC x (.slice (some ⟨G, 0, none⟩) rs.length c))
  unfold SvC at B3
  obtain ⟨x0, x1, x2, x3, x4⟩ := B3.five
  exact bodyPost_ret (v := .agg (SvC x (.slice (some ⟨G, 0, none⟩) rs.length c))) (by simp [results, Tryz.results119, go_sem, SvC, x0, x1, x2, x3, x4]) rfl ⟨_, rfl, .inr ⟨G, c, rfl, HO.out.low (by omega)⟩, HE.out⟩
set_option maxRecDepth 100000 in
set_option maxHeartbeats 4000000 in
theorem newServer_is {g : GrpD} {w : World} {F : Nat → Prop} {C0 : Array Value} (x : Int) (h0 : AtG g w F (.agg C0)) {r : Int × List RegD × Bool} (hr0 : newSv g x = r) :
    Calls Tryz.prog 61 #[.agg C0, .int .i64 x] w (MadeSv LieE r w) := by
  obtain ⟨A, n, cap, e, hm, hr⟩ := h0
  injection e with e
  subst e
  have J0 : Hid ((Tryz.prog.info? 26).map (·.size) = some (#[.int .i64 g.s, .int .i64 g.l, .int .i64 g.c, .int .i64 g.sh, .slice A n cap] : Array Value).size) := Lib.hid (by kernel_rfl)
  have hb0 := bel_trans (bel_alloc w (.cells #[.int .i64 g.s, .int .i64 g.l, .int .i64 g.c, .int .i64 g.sh, .slice A n cap] 26)) (bel_alloc _ (.cells #[.int .i64 0, .slice none 0 0, .slice none 0 0, .slice none 0 0, .slice none 0 0] 104))
  have B1 := (Box.new w 26 #[.int .i64 g.s, .int .i64 g.l, .int .i64 g.c, .int .i64 g.sh, .slice A n cap]).alloc (.cells #[.int .i64 0, .slice none 0 0, .slice none 0 0, .slice none 0 0, .slice none 0 0] 104)
  have B3 := Box.new (w.alloc (.cells #[.int .i64 g.s, .int .i64 g.l, .int .i64 g.c, .int .i64 g.sh, .slice A n cap] 26)) 104 #[.int .i64 0, .slice none 0 0, .slice none 0 0, .slice none 0 0, .slice none 0 0]
  simp only [World.size_alloc] at B3
  have H0 : AtG g ((w.alloc (.cells #[.int .i64 g.s, .int .i64 g.l, .int .i64 g.c, .int .i64 g.sh, .slice A n cap] 26)).alloc (.cells #[.int .i64 0, .slice none 0 0, .slice none 0 0, .slice none 0 0, .slice none 0 0] 104)) F (.agg #[.int .i64 g.s, .int .i64 g.l, .int .i64 g.c, .int .i64 g.sh, .slice A n cap]) := (keepsG g).later ⟨A, n, cap, rfl, hm, hr⟩ hb0
  clear hr
  unfold newSv at hr0
  go_enter Tryz.func61, Tryz.ntmps61
  go_upto_region 1 with fail
  generalize ((w.alloc _).alloc _ : World) = w0 at hb0 B1 B3 H0 ⊢
  have hB3 := B3.lt
  go_wp2_with (refine wpList_load_box 26 _ rfl (w.heap.size) rfl 26 #[.int .i64 g.s, .int .i64 g.l, .int .i64 g.c, .int .i64 g.sh, .slice A n cap] B1 _ Tryz.underlying26 rfl J0.out (by first | rfl | simp [Region.wanted, yielded] | (simp [Region.wanted, yielded, Act.put] <;> omega)) ?_)
  refine (server_any g.s g.l g.c g.sh A n cap g.zs x w0 hm (rowG9 H0)).mono ?_
  rintro e w1 ⟨rfl, hb⟩
  replace B1 := B1.later hb B1.lt
  replace B3 := B3.later hb B3.lt
  replace H0 := (keepsG g).later H0 hb
  replace hb0 := bel_trans hb0 hb
  clear hb
  rcases hsv : srvB g.s g.l g.c g.sh g.zs x with _ | _
  · rw [if_neg (by rw [hsv]; simp)] at hr0
    subst hr0
    clear hsv B1 H0 J0
    go_wp2_with (refine wpList_store_row rfl 104 _ _ rfl (w.heap.size + 1) (SvC 0 (.slice none 0 0)) rfl rfl 104 #[.int .i64 0, .slice none 0 0, .slice none 0 0, .slice none 0 0, .slice none 0 0] B3 (by kernel_rfl) rfl (by simp [SvC, Value.oneCell']) ?_)
    have HE := (turns_setRow w1 (w.heap.size + 1) (SvC 0 (.slice none 0 0))).below hb0 (fun i hi => by have e : i = w.heap.size + 1 := hi; omega)
    replace B3 := B3.setRow (SvC 0 (.slice none 0 0))
    unfold SvC at B3
    obtain ⟨x0, x1, x2, x3, x4⟩ := B3.five
    exact bodyPost_ret (v := .tuple #[.agg (SvC 0 (.slice none 0 0)), .bool false]) (by simp [results, Tryz.results61, go_sem, SvC, x0, x1, x2, x3, x4]) rfl ⟨_, rfl, .inl ⟨rfl, rfl⟩, HE⟩
  · rw [if_pos hsv] at hr0
    subst hr0
    have hok := srv_ok hsv
    clear hsv
    go_wp2_with (refine wpList_load_box 26 _ rfl (w.heap.size) rfl 26 #[.int .i64 g.s, .int .i64 g.l, .int .i64 g.c, .int .i64 g.sh, .slice A n cap] B1 _ Tryz.underlying26 rfl J0.out (by first | rfl | simp [Region.wanted, yielded] | (simp [Region.wanted, yielded, Act.put] <;> omega)) ?_)
    refine (serverBy_is x H0 hok rfl).mono ?_
    rintro e w2 ⟨u, rfl, hu, hb⟩
    have hB4 := B3.lt
    replace B3 := B3.later hb B3.lt
    have hs1 := hb0.size
    have HU := Lib.hid (hu.turn keepsLE (turns_setRow w2 (w.heap.size + 1) (SvC x u)) (fun b e => by have e : b = w.heap.size + 1 := e; omega))
    have HE := Lib.hid ((turns_setRow w2 (w.heap.size + 1) (SvC x u)).below (bel_trans hb0 hb) (fun i hi => by have e : i = w.heap.size + 1 := hi; omega))
    have hu1 : u.oneCell' = true := by rcases hu with ⟨rfl, _⟩ | ⟨G, c, rfl, _⟩ <;> rfl
    obtain ⟨ua, un, uc, rfl⟩ : ∃ a b c, u = .slice a b c := by rcases hu with ⟨rfl, _⟩ | ⟨G, c, rfl, _⟩ <;> exact ⟨_, _, _, rfl⟩
    clear hu hb hb0 B1 H0 J0 hok
    go_wp2_with (refine wpList_store_row rfl 104 _ _ rfl (w.heap.size + 1) (SvC x (.slice ua un uc)) rfl rfl 104 #[.int .i64 0, .slice none 0 0, .slice none 0 0, .slice none 0 0, .slice none 0 0] B3 (by kernel_rfl) rfl (by simp [SvC, Value.oneCell']) ?_)
    replace B3 := B3.setRow (SvC x (.slice ua un uc))
    unfold SvC at B3
    obtain ⟨x0, x1, x2, x3, x4⟩ := B3.five
    exact bodyPost_ret (v := .tuple #[.agg (SvC x (.slice ua un uc)), .bool true]) (by simp [results, Tryz.results61, go_sem, SvC, x0, x1, x2, x3, x4]) rfl ⟨_, rfl, HU.out.low hs1, HE.out⟩
set_option maxRecDepth 100000 in
set_option maxHeartbeats 4000000 in
theorem specNewServer_is {g : GrpD} {w : World} {F : Nat → Prop} {C0 : Array Value} (x : Int) (h0 : AtG g w F (.agg C0)) {r : Int × List RegD × Bool} (hr0 : newSv g x = r) :
    Calls Tryz.prog 60 #[.agg C0, .int .i64 x] w (MadeSv AtW r w) := by
  obtain ⟨A, n, cap, e, hm, hr⟩ := h0
  injection e with e
  subst e
  have J0 : Hid ((Tryz.prog.info? 26).map (·.size) = some (#[.int .i64 g.s, .int .i64 g.l, .int .i64 g.c, .int .i64 g.sh, .slice A n cap] : Array Value).size) := Lib.hid (by kernel_rfl)
  have hb0 := bel_trans (bel_alloc w (.cells #[.int .i64 g.s, .int .i64 g.l, .int .i64 g.c, .int .i64 g.sh, .slice A n cap] 26)) (bel_alloc _ (.cells #[.int .i64 0, .slice none 0 0, .slice none 0 0, .slice none 0 0, .slice none 0 0] 104))
  have B1 := (Box.new w 26 #[.int .i64 g.s, .int .i64 g.l, .int .i64 g.c, .int .i64 g.sh, .slice A n cap]).alloc (.cells #[.int .i64 0, .slice none 0 0, .slice none 0 0, .slice none 0 0, .slice none 0 0] 104)
  have B3 := Box.new (w.alloc (.cells #[.int .i64 g.s, .int .i64 g.l, .int .i64 g.c, .int .i64 g.sh, .slice A n cap] 26)) 104 #[.int .i64 0, .slice none 0 0, .slice none 0 0, .slice none 0 0, .slice none 0 0]
  simp only [World.size_alloc] at B3
  have H0 : AtG g ((w.alloc (.cells #[.int .i64 g.s, .int .i64 g.l, .int .i64 g.c, .int .i64 g.sh, .slice A n cap] 26)).alloc (.cells #[.int .i64 0, .slice none 0 0, .slice none 0 0, .slice none 0 0, .slice none 0 0] 104)) F (.agg #[.int .i64 g.s, .int .i64 g.l, .int .i64 g.c, .int .i64 g.sh, .slice A n cap]) := (keepsG g).later ⟨A, n, cap, rfl, hm, hr⟩ hb0
  clear hr
  unfold newSv at hr0
  go_enter Tryz.func60, Tryz.ntmps60
  go_upto_region 1 with fail
  generalize ((w.alloc _).alloc _ : World) = w0 at hb0 B1 B3 H0 ⊢
  have hB3 := B3.lt
  go_wp2_with (refine wpList_load_box 26 _ rfl (w.heap.size) rfl 26 #[.int .i64 g.s, .int .i64 g.l, .int .i64 g.c, .int .i64 g.sh, .slice A n cap] B1 _ Tryz.underlying26 rfl J0.out (by first | rfl | simp [Region.wanted, yielded] | (simp [Region.wanted, yielded, Act.put] <;> omega)) ?_)
  refine (specServer_any g.s g.l g.c g.sh A n cap g.zs x w0 hm (rowG9 H0)).mono ?_
  rintro e w1 ⟨rfl, hb⟩
  replace B1 := B1.later hb B1.lt
  replace B3 := B3.later hb B3.lt
  have hB4 := B3.lt
  replace hb0 := bel_trans hb0 hb
  clear hb H0
  rcases hsv : srvB g.s g.l g.c g.sh g.zs x with _ | _
  · rw [if_neg (by rw [hsv]; simp)] at hr0
    subst hr0
    clear hsv B1 J0
    go_wp2_with (refine wpList_store_row rfl 104 _ _ rfl (w.heap.size + 1) (SvC 0 (.slice none 0 0)) rfl rfl 104 #[.int .i64 0, .slice none 0 0, .slice none 0 0, .slice none 0 0, .slice none 0 0] B3 (by kernel_rfl) rfl (by simp [SvC, Value.oneCell']) ?_)
    have HE := (turns_setRow w1 (w.heap.size + 1) (SvC 0 (.slice none 0 0))).below hb0 (fun i hi => by have e : i = w.heap.size + 1 := hi; omega)
    replace B3 := B3.setRow (SvC 0 (.slice none 0 0))
    unfold SvC at B3
    obtain ⟨x0, x1, x2, x3, x4⟩ := B3.five
    exact bodyPost_ret (v := .tuple #[.agg (SvC 0 (.slice none 0 0)), .bool false]) (by simp [results, Tryz.results60, go_sem, SvC, x0, x1, x2, x3, x4]) rfl ⟨_, rfl, .inl ⟨rfl, rfl⟩, HE⟩
  · rw [if_pos hsv] at hr0
    subst hr0
    have hok := srv_ok hsv
    clear hsv
    obtain ⟨hs1, hs4⟩ := okB_sh hok
    obtain ⟨ns, hns⟩ : ∃ ns : Nat, g.sh = (ns : Int) := ⟨g.sh.toNat, by omega⟩
    have hmk := fun W => run_make_regs (P := Tryz.prog) 101 80 Tryz.underlying101 Tryz.infoReg9 ns (by omega) W
    have gn3 : w1.cell? ⟨w.heap.size, 3, none⟩ = some (.int .i64 (ns : Int)) := (B1.cell 3).trans (by rw [← hns]; rfl)
    have hnn : g.sh.toNat = ns := by omega
    have hsz := hb0.size
    have K0 := (regs_new AtW zeroW w1 ns)
    have hb := bel_alloc w1 (.cells (madeCells #[.int .i64 0, .int .i64 0, .int .i64 0, .slice none 0 0, .slice none 0 0] (ns * 5)) 80)
    replace B3 := B3.later hb B3.lt
    have hb2 := bel_trans hb0 hb
    have HU := Lib.hid (RegsOwn.turn keepsW K0 (turns_setRow (w1.alloc (.cells (madeCells #[.int .i64 0, .int .i64 0, .int .i64 0, .slice none 0 0, .slice none 0 0] (ns * 5)) 80)) (w.heap.size + 1) (SvC x (.slice (some ⟨w1.heap.size, 0, none⟩) ns ns))) (fun b e => by have e : b = w.heap.size + 1 := e; omega))
    have HE := Lib.hid ((turns_setRow (w1.alloc (.cells (madeCells #[.int .i64 0, .int .i64 0, .int .i64 0, .slice none 0 0, .slice none 0 0] (ns * 5)) 80)) (w.heap.size + 1) (SvC x (.slice (some ⟨w1.heap.size, 0, none⟩) ns ns))).below hb2 (fun i hi => by have e : i = w.heap.size + 1 := hi; omega))
    clear K0 hb hb0 hb2 J0 hok B1 hs1 hs4 hns
    go_wp2_with (refine wpList_store_row rfl 104 _ _ rfl (w.heap.size + 1) (SvC x (.slice (some ⟨w1.heap.size, 0, none⟩) ns ns)) rfl rfl 104 #[.int .i64 0, .slice none 0 0, .slice none 0 0, .slice none 0 0, .slice none 0 0] B3 (by kernel_rfl) rfl (by simp [SvC, Value.oneCell']) ?_)
    replace B3 := B3.setRow (SvC x (.slice (some ⟨w1.heap.size, 0, none⟩) ns ns))
    unfold SvC at B3
    obtain ⟨x0, x1, x2, x3, x4⟩ := B3.five
    exact bodyPost_ret (v := .tuple #[.agg (SvC x (.slice (some ⟨w1.heap.size, 0, none⟩) ns ns)), .bool true]) (by simp [results, Tryz.results60, go_sem, SvC, x0, x1, x2, x3, x4]) rfl ⟨_, rfl, .inr ⟨w1.heap.size, ns, by show _ = Value.slice _ (List.replicate g.sh.toNat zeroR).length ns; rw [List.length_replicate, hnn], by show RegsOwn AtW _ _ _ (List.replicate g.sh.toNat zeroR); rw [hnn]; exact (HU.out).low hsz⟩, HE.out⟩

end Go.Proofs.YtjdepjpjjgkmbaaGreat

/- The laws' helpers over lists of shelves: two lists compared; conditions: the sizes. -/
namespace Go.Proofs.YtjdepjpjjgkmbaaGreat
open Go Go.RowKit

/-- A list of shelves, read. -/
def RegsR (rs : List RegD) (w : World) (A : Option Addr) (n : Nat) : Prop :=
  rs.length = n ∧ (0 < n → ∃ b, A = some ⟨b, 0, none⟩ ∧ b < w.heap.size ∧ ∀ i (h : i < rs.length), ∃ u v, w.cell? ⟨b, i * 5, none⟩ = some (.int .i64 (rs[i]).t) ∧ w.cell? ⟨b, i * 5 + 1, none⟩ = some (.int .i64 (rs[i]).q) ∧ w.cell? ⟨b, i * 5 + 2, none⟩ = some (.int .i64 (rs[i]).v) ∧ w.cell? ⟨b, i * 5 + 3, none⟩ = some u ∧ w.cell? ⟨b, i * 5 + 4, none⟩ = some v ∧
    AtR rs[i] w (fun _ => True) (.agg #[.int .i64 (rs[i]).t, .int .i64 (rs[i]).q, .int .i64 (rs[i]).v, u, v]))
theorem RegsR.later {rs : List RegD} {w w' : World} {A : Option Addr} {n : Nat} (h : RegsR rs w A n) (hb : Below w.heap.size w w') : RegsR rs w' A n := by
  refine ⟨h.1, fun hn => ?_⟩
  obtain ⟨b, hA, hbl, hc⟩ := h.2 hn
  have F : ∀ o x, w.cell? ⟨b, o, none⟩ = some x → w'.cell? ⟨b, o, none⟩ = some x := fun o x h => (hb.cell (p := ⟨b, o, none⟩) hbl).trans h
  refine ⟨b, hA, Nat.lt_of_lt_of_le hbl hb.size, fun i hi => ?_⟩
  obtain ⟨u, v, c0, c1, c2, c3, c4, h5⟩ := hc i hi
  exact ⟨u, v, F _ _ c0, F _ _ c1, F _ _ c2, F _ _ c3, F _ _ c4, (keepsR _).later h5 hb⟩
theorem RegsOwn.reads {P : RegD → World → (Nat → Prop) → Value → Prop} (hP : ∀ d w F v, P d w F v → AtR d w (fun _ => True) v) {w : World} {G lo : Nat} {rs : List RegD} (h : RegsOwn P w G lo rs) {n : Nat} (hn : rs.length = n) : RegsR rs w (some ⟨G, 0, none⟩) n := by
  obtain ⟨_, Fs, hR, _⟩ := h
  refine ⟨hn, fun _ => ⟨G, rfl, hR.lt, fun i hi => ?_⟩⟩
  obtain ⟨u, v, c0, c1, c2, c3, c4, hp⟩ := hR.get hi
  exact ⟨u, v, c0, c1, c2, c3, c4, hP _ _ _ _ hp⟩
end Go.Proofs.YtjdepjpjjgkmbaaGreat

/- The laws' sizes, copies and comparisons of journals as data; conditions: the sizes. -/
namespace Go.Proofs.YtjdepjpjjgkmbaaGreat
open Go Go.RowKit

theorem eq_J {d : JourD} {w : World} {F F' : Nat → Prop} {C C' : Array Value} (h : AtJ d w F (.agg C)) (h' : AtJ d w F' (.agg C')) (hs : d.sz ≤ 1048576) :
    Calls Tryz.prog 29 #[.agg C, .agg C'] w fun e w' => e = .returned (.bool true) ∧ Below w.heap.size w w' := by
  obtain ⟨A, n, c, A', n', c', e, hm, hm', hr, hr'⟩ := h
  obtain ⟨B, p, q, B', p', q', e', -, -, hs1, hs2⟩ := h'
  injection e with e
  injection e' with e'
  subst e e'
  obtain rfl : n = p := hr.1.symm.trans hs1.1
  obtain rfl : n' = p' := hr'.1.symm.trans hs2.1
  have hz1 : totC d.ks ≤ 1048576 := by unfold JourD.sz at hs; omega
  have hz2 : totC d.ls ≤ 1048576 := by unfold JourD.sz at hs; omega
  have hb0 := bel_trans (bel_alloc w (.cells #[.slice A n c, .slice A' n' c'] 29)) (bel_alloc _ (.cells #[.slice B n q, .slice B' n' q'] 29))
  have D := (Box.new w 29 #[.slice A n c, .slice A' n' c']).alloc (.cells #[.slice B n q, .slice B' n' q'] 29)
  have X := Box.new (w.alloc (.cells #[.slice A n c, .slice A' n' c'] 29)) 29 #[.slice B n q, .slice B' n' q']
  simp only [World.size_alloc] at X
  have H1 := Lib.hid (hr.later hb0)
  have H2 := Lib.hid (hr'.later hb0)
  have H3 := Lib.hid (hs1.later hb0)
  have H4 := Lib.hid (hs2.later hb0)
  clear hr hr' hs1 hs2 hm hm' hs
  go_enter Tryz.func29, Tryz.ntmps29
  go_upto_region 1 with fail
  generalize ((w.alloc _).alloc _ : World) = w0 at hb0 D X H1 H2 H3 H4 ⊢
  obtain ⟨d0, d1⟩ := D.two
  obtain ⟨x0, x1⟩ := X.two
  go_wp2_with fail
  refine (eq_CS H1.out H3.out hz1).mono ?_
  rintro e w1 ⟨rfl, hb⟩
  replace D := D.later hb D.lt
  replace X := X.later hb X.lt
  have E := bel_trans hb0 hb
  have K2 := Lib.hid (H2.out.later hb)
  have K4 := Lib.hid (H4.out.later hb)
  clear hb hb0 d0 d1 x0 x1 H1 H2 H3 H4
  obtain ⟨d0, d1⟩ := D.two
  obtain ⟨x0, x1⟩ := X.two
  go_wp2_with fail
  refine (eq_CS K2.out K4.out hz2).mono ?_
  rintro e w2 ⟨rfl, hb⟩
  have E2 := bel_trans E hb
  clear hb E d0 d1 x0 x1 D X
  go_wp2
  go_ret
  exact ⟨rfl, E2⟩
end Go.Proofs.YtjdepjpjjgkmbaaGreat

/- Lists of shelves and of notes, and servers, read anywhere; two of them compared (written by sv_read.py); conditions: the sizes. -/
namespace Go.Proofs.YtjdepjpjjgkmbaaGreat
open Go Go.RowKit

/-- A list, read through blocks of F alone. -/
def RegsF (ds : List RegD) (w : World) (F : Nat → Prop) (A : Option Addr) (n : Nat) : Prop :=
  ds.length = n ∧ (0 < n → ∃ b o, A = some ⟨b, o, none⟩ ∧ F b ∧ b < w.heap.size ∧ ∀ i (h : i < ds.length), ∃ u v, w.cell? ⟨b, o + i * 5, none⟩ = some (.int .i64 (ds[i]).t) ∧ w.cell? ⟨b, o + i * 5 + 1, none⟩ = some (.int .i64 (ds[i]).q) ∧ w.cell? ⟨b, o + i * 5 + 2, none⟩ = some (.int .i64 (ds[i]).v) ∧ w.cell? ⟨b, o + i * 5 + 3, none⟩ = some (u) ∧ w.cell? ⟨b, o + i * 5 + 4, none⟩ = some (v) ∧
    AtR ds[i] w F (.agg #[.int .i64 (ds[i]).t, .int .i64 (ds[i]).q, .int .i64 (ds[i]).v, u, v]))
theorem RegsF.turn {T : Nat → Prop} {ds : List RegD} {w w' : World} {F : Nat → Prop} {A : Option Addr} {n : Nat} (h : RegsF ds w F A n) (ht : Turns T w w') (hd : ∀ b, F b → ¬ T b) : RegsF ds w' F A n := by
  refine ⟨h.1, fun hn => ?_⟩
  obtain ⟨b, o, hA, hF, hbl, hc⟩ := h.2 hn
  have E : ∀ o x, w.cell? ⟨b, o, none⟩ = some x → w'.cell? ⟨b, o, none⟩ = some x := fun o x h => (ht.cell hbl (hd b hF) o).trans h
  refine ⟨b, o, hA, hF, Nat.lt_of_lt_of_le hbl ht.size, fun i hi => ?_⟩
  obtain ⟨u, v, c0, c1, c2, c3, c4, h5⟩ := hc i hi
  exact ⟨u, v, E _ _ c0, E _ _ c1, E _ _ c2, E _ _ c3, E _ _ c4, (keepsR _).turn h5 ht hd⟩
theorem RegsF.later {ds : List RegD} {w w' : World} {F : Nat → Prop} {A : Option Addr} {n : Nat} (h : RegsF ds w F A n) (hb : Below w.heap.size w w') : RegsF ds w' F A n := h.turn (T := fun _ => False) (Turns.of_below hb) (fun _ _ h => h)
theorem RegsF.sub {ds : List RegD} {w : World} {F F' : Nat → Prop} {A : Option Addr} {n : Nat} (h : RegsF ds w F A n) (hs : ∀ b, F b → F' b) : RegsF ds w F' A n := by
  refine ⟨h.1, fun hn => ?_⟩
  obtain ⟨b, o, hA, hF, hbl, hc⟩ := h.2 hn
  refine ⟨b, o, hA, hs b hF, hbl, fun i hi => ?_⟩
  obtain ⟨u, v, c0, c1, c2, c3, c4, h5⟩ := hc i hi
  exact ⟨u, v, c0, c1, c2, c3, c4, (keepsR _).sub h5 hs⟩

set_option maxRecDepth 100000 in
set_option maxHeartbeats 8000000 in
theorem eq_RF {ds : List RegD} {w : World} {F F' : Nat → Prop} {A A' : Option Addr} {n cap cap' : Nat} (h : RegsF ds w F A n) (h' : RegsF ds w F' A' n) (hn : n ≤ 1048576) (hz : ∀ k (h : k < ds.length), (ds[k]).ps.length ≤ 1048576 ∧ (ds[k]).os.length ≤ 1048577) :
    Calls Tryz.prog 120 #[.slice A n cap, .slice A' n cap'] w fun e w' => e = .returned (.bool true) ∧ Below w.heap.size w w' := by
  have HL := Lib.hid h.1
  have HH := Lib.hid h
  have HH' := Lib.hid h'
  have HZ := Lib.hid hz
  clear h h' hz
  go_enter Tryz.func120, Tryz.ntmps120
  go_wp2
  go_loopw [5] (fun i wr => ∃ k : Nat, k ≤ n ∧ i = .int .i64 k ∧ Below w.heap.size w wr) (fun i _ => n - (intOf i).toNat)
  case atStart => exact ⟨0, Nat.zero_le _, rfl, Below.refl _ _⟩
  case round =>
    obtain ⟨k, hk, rfl, hb⟩ := hrel
    by_cases hlt : k < n
    · have hkd : k < ds.length := by have := HL.out; omega
      obtain ⟨b, o, hA, -, hbl, hc⟩ := (HH.out.later hb).2 (by omega)
      obtain ⟨b', o', hA', -, hbl', hc'⟩ := (HH'.out.later hb).2 (by omega)
      subst hA hA'
      obtain ⟨u, v, c0, c1, c2, c3, c4, hat⟩ := hc k hkd
      obtain ⟨u', v', e0, e1, e2, e3, e4, hat'⟩ := hc' k hkd
      have hzz := HZ.out k hkd
      obtain ⟨d, hd⟩ : ∃ d : RegD, ds[k] = d := ⟨_, rfl⟩
      rw [hd] at c0 e0 c1 e1 c2 e2 hat hat' hzz
      have f0 := After.cell hbl c0
      have g0 := After.cell hbl' e0
      have f1 := After.cell hbl c1
      have g1 := After.cell hbl' e1
      have f2 := After.cell hbl c2
      have g2 := After.cell hbl' e2
      have f3 := After.cell hbl c3
      have g3 := After.cell hbl' e3
      have f4 := After.cell hbl c4
      have g4 := After.cell hbl' e4
      have hltI : (k : Int) < (n : Int) := by omega
      have hkw : IntKind.i64.wrap ((k : Int) + 1) = (k : Int) + 1 := IntWalk.i64_in _ (by omega)
      have HAT := Lib.hid hat
      have HAT' := Lib.hid hat'
      have HZZ := Lib.hid hzz
      clear hd hat hat' hzz hc hc' c0 e0 c1 e1 c2 e2 c3 e3 c4 e4
      go_upto_region 6 with fail
      refine wp_region_after (by kernel_rfl) (by kernel_rfl) ?_
      repeat (first | go_big_quiet_step ((go_at_call 48; exact after_of (eq_R ((keepsR _).later HAT.out (After.bel _)) ((keepsR _).later HAT'.out (After.bel _)) HZZ.out.1 HZZ.out.2))) | quiet_step ((go_at_call 48; exact after_of (eq_R ((keepsR _).later HAT.out (After.bel _)) ((keepsR _).later HAT'.out (After.bel _)) HZZ.out.1 HZZ.out.2))))
      refine wpQuiet_nil ?_
      intro pw
      clear f0 g0 f1 g1 f2 g2 f3 g3 f4 g4
      go_wp2
      go_roundw
      case rel => exact ⟨k + 1, by omega, by go_num, bel_trans hb pw.bel⟩
      case measure => simp [intOf]; omega
    · have hkn : k = n := by omega
      subst hkn
      go_wp2
      go_ret
      exact ⟨rfl, hb⟩
/-- A list, read through blocks of F alone. -/
def NotesF (ds : List NoteD) (w : World) (F : Nat → Prop) (A : Option Addr) (n : Nat) : Prop :=
  ds.length = n ∧ (0 < n → ∃ b o, A = some ⟨b, o, none⟩ ∧ F b ∧ b < w.heap.size ∧ ∀ i (h : i < ds.length), ∃ u v, w.cell? ⟨b, o + i * 16, none⟩ = some (.int .i64 (ds[i]).k1) ∧ w.cell? ⟨b, o + i * 16 + 1, none⟩ = some (.int .i64 (ds[i]).k2) ∧ w.cell? ⟨b, o + i * 16 + 2, none⟩ = some (.int .i64 (ds[i]).k3) ∧ w.cell? ⟨b, o + i * 16 + 3, none⟩ = some (.int .i64 (ds[i]).k4) ∧ w.cell? ⟨b, o + i * 16 + 4, none⟩ = some (.int .i64 (ds[i]).k5) ∧ w.cell? ⟨b, o + i * 16 + 5, none⟩ = some (.int .i64 (ds[i]).t1) ∧ w.cell? ⟨b, o + i * 16 + 6, none⟩ = some (.int .i64 (ds[i]).t2) ∧ w.cell? ⟨b, o + i * 16 + 7, none⟩ = some (.int .i64 (ds[i]).v1) ∧ w.cell? ⟨b, o + i * 16 + 8, none⟩ = some (.int .i64 (ds[i]).o1) ∧ w.cell? ⟨b, o + i * 16 + 9, none⟩ = some (.int .i64 (ds[i]).o2) ∧ w.cell? ⟨b, o + i * 16 + 10, none⟩ = some (.int .i64 (ds[i]).v2) ∧ w.cell? ⟨b, o + i * 16 + 11, none⟩ = some (u) ∧ w.cell? ⟨b, o + i * 16 + 12, none⟩ = some (v) ∧ w.cell? ⟨b, o + i * 16 + 13, none⟩ = some (.int .i64 (ds[i]).l1) ∧ w.cell? ⟨b, o + i * 16 + 14, none⟩ = some (.int .i64 (ds[i]).l2) ∧ w.cell? ⟨b, o + i * 16 + 15, none⟩ = some (.int .i64 (ds[i]).v3) ∧
    AtN ds[i] w F (.agg #[.int .i64 (ds[i]).k1, .int .i64 (ds[i]).k2, .int .i64 (ds[i]).k3, .int .i64 (ds[i]).k4, .int .i64 (ds[i]).k5, .int .i64 (ds[i]).t1, .int .i64 (ds[i]).t2, .int .i64 (ds[i]).v1, .int .i64 (ds[i]).o1, .int .i64 (ds[i]).o2, .int .i64 (ds[i]).v2, u, v, .int .i64 (ds[i]).l1, .int .i64 (ds[i]).l2, .int .i64 (ds[i]).v3]))
theorem NotesF.turn {T : Nat → Prop} {ds : List NoteD} {w w' : World} {F : Nat → Prop} {A : Option Addr} {n : Nat} (h : NotesF ds w F A n) (ht : Turns T w w') (hd : ∀ b, F b → ¬ T b) : NotesF ds w' F A n := by
  refine ⟨h.1, fun hn => ?_⟩
  obtain ⟨b, o, hA, hF, hbl, hc⟩ := h.2 hn
  have E : ∀ o x, w.cell? ⟨b, o, none⟩ = some x → w'.cell? ⟨b, o, none⟩ = some x := fun o x h => (ht.cell hbl (hd b hF) o).trans h
  refine ⟨b, o, hA, hF, Nat.lt_of_lt_of_le hbl ht.size, fun i hi => ?_⟩
  obtain ⟨u, v, c0, c1, c2, c3, c4, c5, c6, c7, c8, c9, c10, c11, c12, c13, c14, c15, h5⟩ := hc i hi
  exact ⟨u, v, E _ _ c0, E _ _ c1, E _ _ c2, E _ _ c3, E _ _ c4, E _ _ c5, E _ _ c6, E _ _ c7, E _ _ c8, E _ _ c9, E _ _ c10, E _ _ c11, E _ _ c12, E _ _ c13, E _ _ c14, E _ _ c15, (keepsN _).turn h5 ht hd⟩
theorem NotesF.later {ds : List NoteD} {w w' : World} {F : Nat → Prop} {A : Option Addr} {n : Nat} (h : NotesF ds w F A n) (hb : Below w.heap.size w w') : NotesF ds w' F A n := h.turn (T := fun _ => False) (Turns.of_below hb) (fun _ _ h => h)
theorem NotesF.sub {ds : List NoteD} {w : World} {F F' : Nat → Prop} {A : Option Addr} {n : Nat} (h : NotesF ds w F A n) (hs : ∀ b, F b → F' b) : NotesF ds w F' A n := by
  refine ⟨h.1, fun hn => ?_⟩
  obtain ⟨b, o, hA, hF, hbl, hc⟩ := h.2 hn
  refine ⟨b, o, hA, hs b hF, hbl, fun i hi => ?_⟩
  obtain ⟨u, v, c0, c1, c2, c3, c4, c5, c6, c7, c8, c9, c10, c11, c12, c13, c14, c15, h5⟩ := hc i hi
  exact ⟨u, v, c0, c1, c2, c3, c4, c5, c6, c7, c8, c9, c10, c11, c12, c13, c14, c15, (keepsN _).sub h5 hs⟩

set_option maxRecDepth 100000 in
set_option maxHeartbeats 8000000 in
theorem eq_NF {ds : List NoteD} {w : World} {F F' : Nat → Prop} {A A' : Option Addr} {n cap cap' : Nat} (h : NotesF ds w F A n) (h' : NotesF ds w F' A' n) (hn : n ≤ 1048576) (hz : ∀ k (h : k < ds.length), (ds[k]).sz ≤ 1048576) :
    Calls Tryz.prog 121 #[.slice A n cap, .slice A' n cap'] w fun e w' => e = .returned (.bool true) ∧ Below w.heap.size w w' := by
  have HL := Lib.hid h.1
  have HH := Lib.hid h
  have HH' := Lib.hid h'
  have HZ := Lib.hid hz
  clear h h' hz
  go_enter Tryz.func121, Tryz.ntmps121
  go_wp2
  go_loopw [5] (fun i wr => ∃ k : Nat, k ≤ n ∧ i = .int .i64 k ∧ Below w.heap.size w wr) (fun i _ => n - (intOf i).toNat)
  case atStart => exact ⟨0, Nat.zero_le _, rfl, Below.refl _ _⟩
  case round =>
    obtain ⟨k, hk, rfl, hb⟩ := hrel
    by_cases hlt : k < n
    · have hkd : k < ds.length := by have := HL.out; omega
      obtain ⟨b, o, hA, -, hbl, hc⟩ := (HH.out.later hb).2 (by omega)
      obtain ⟨b', o', hA', -, hbl', hc'⟩ := (HH'.out.later hb).2 (by omega)
      subst hA hA'
      obtain ⟨u, v, c0, c1, c2, c3, c4, c5, c6, c7, c8, c9, c10, c11, c12, c13, c14, c15, hat⟩ := hc k hkd
      obtain ⟨u', v', e0, e1, e2, e3, e4, e5, e6, e7, e8, e9, e10, e11, e12, e13, e14, e15, hat'⟩ := hc' k hkd
      have hzz := HZ.out k hkd
      obtain ⟨d, hd⟩ : ∃ d : NoteD, ds[k] = d := ⟨_, rfl⟩
      rw [hd] at c0 e0 c1 e1 c2 e2 c3 e3 c4 e4 c5 e5 c6 e6 c7 e7 c8 e8 c9 e9 c10 e10 c13 e13 c14 e14 c15 e15 hat hat' hzz
      have f0 := After.cell hbl c0
      have g0 := After.cell hbl' e0
      have f1 := After.cell hbl c1
      have g1 := After.cell hbl' e1
      have f2 := After.cell hbl c2
      have g2 := After.cell hbl' e2
      have f3 := After.cell hbl c3
      have g3 := After.cell hbl' e3
      have f4 := After.cell hbl c4
      have g4 := After.cell hbl' e4
      have f5 := After.cell hbl c5
      have g5 := After.cell hbl' e5
      have f6 := After.cell hbl c6
      have g6 := After.cell hbl' e6
      have f7 := After.cell hbl c7
      have g7 := After.cell hbl' e7
      have f8 := After.cell hbl c8
      have g8 := After.cell hbl' e8
      have f9 := After.cell hbl c9
      have g9 := After.cell hbl' e9
      have f10 := After.cell hbl c10
      have g10 := After.cell hbl' e10
      have f11 := After.cell hbl c11
      have g11 := After.cell hbl' e11
      have f12 := After.cell hbl c12
      have g12 := After.cell hbl' e12
      have f13 := After.cell hbl c13
      have g13 := After.cell hbl' e13
      have f14 := After.cell hbl c14
      have g14 := After.cell hbl' e14
      have f15 := After.cell hbl c15
      have g15 := After.cell hbl' e15
      have hltI : (k : Int) < (n : Int) := by omega
      have hkw : IntKind.i64.wrap ((k : Int) + 1) = (k : Int) + 1 := IntWalk.i64_in _ (by omega)
      have HAT := Lib.hid hat
      have HAT' := Lib.hid hat'
      have HZZ := Lib.hid hzz
      clear hd hat hat' hzz hc hc' c0 e0 c1 e1 c2 e2 c3 e3 c4 e4 c5 e5 c6 e6 c7 e7 c8 e8 c9 e9 c10 e10 c11 e11 c12 e12 c13 e13 c14 e14 c15 e15
      go_upto_region 6 with fail
      refine wp_region_after (by kernel_rfl) (by kernel_rfl) ?_
      repeat (first | go_big_quiet_step ((go_at_call 49; exact after_of (eq_N ((keepsN _).later HAT.out (After.bel _)) ((keepsN _).later HAT'.out (After.bel _)) HZZ.out))) | quiet_step ((go_at_call 49; exact after_of (eq_N ((keepsN _).later HAT.out (After.bel _)) ((keepsN _).later HAT'.out (After.bel _)) HZZ.out))))
      refine wpQuiet_nil ?_
      intro pw
      clear f0 g0 f1 g1 f2 g2 f3 g3 f4 g4 f5 g5 f6 g6 f7 g7 f8 g8 f9 g9 f10 g10 f11 g11 f12 g12 f13 g13 f14 g14 f15 g15
      go_wp2
      go_roundw
      case rel => exact ⟨k + 1, by omega, by go_num, bel_trans hb pw.bel⟩
      case measure => simp [intOf]; omega
    · have hkn : k = n := by omega
      subst hkn
      go_wp2
      go_ret
      exact ⟨rfl, hb⟩
/-- A server, as data. -/
structure ServD where
  x : Int
  rs : List RegD
  j : JourD
  ns : List NoteD
def AtSv (d : ServD) (w : World) (F : Nat → Prop) (v : Value) : Prop :=
  ∃ (A : Option Addr) (n c : Nat) (A1 : Option Addr) (n1 c1 : Nat) (A2 : Option Addr) (n2 c2 : Nat) (A3 : Option Addr) (n3 c3 : Nat), v = .agg #[.int .i64 d.x, .slice A n c, .slice A1 n1 c1, .slice A2 n2 c2, .slice A3 n3 c3] ∧ n ≤ maxLen ∧ n3 ≤ maxLen ∧ RegsF d.rs w F A n ∧ AtJ d.j w F (.agg #[.slice A1 n1 c1, .slice A2 n2 c2]) ∧ NotesF d.ns w F A3 n3
theorem keepsSv (d : ServD) : Keeps (AtSv d) :=
  ⟨fun ⟨A, n, c, A1, n1, c1, A2, n2, c2, A3, n3, c3, e, m1, m2, h1, h2, h3⟩ ht hd => ⟨A, n, c, A1, n1, c1, A2, n2, c2, A3, n3, c3, e, m1, m2, h1.turn ht hd, (keepsJ d.j).turn h2 ht hd, h3.turn ht hd⟩, fun ⟨A, n, c, A1, n1, c1, A2, n2, c2, A3, n3, c3, e, m1, m2, h1, h2, h3⟩ hs => ⟨A, n, c, A1, n1, c1, A2, n2, c2, A3, n3, c3, e, m1, m2, h1.sub hs, (keepsJ d.j).sub h2 hs, h3.sub hs⟩⟩
set_option maxRecDepth 100000 in
theorem sizeSvI {d : ServD} {w : World} {F : Nat → Prop} {C : Array Value} (h : AtSv d w F (.agg C)) : (Tryz.prog.info? 104).map (·.size) = some C.size := by
  obtain ⟨A, n, c, A1, n1, c1, A2, n2, c2, A3, n3, c3, e, _⟩ := h
  injection e with e
  subst e
  kernel_rfl
/-- What the comparing wants of the sizes. -/
structure ServD.Eqs (d : ServD) : Prop where
  nr : d.rs.length ≤ 1048576
  rs : ∀ k (h : k < d.rs.length), (d.rs[k]).ps.length ≤ 1048576 ∧ (d.rs[k]).os.length ≤ 1048577
  j : d.j.sz ≤ 1048576
  nn : d.ns.length ≤ 1048576
  ns : ∀ k (h : k < d.ns.length), (d.ns[k]).sz ≤ 1048576

set_option maxRecDepth 100000 in
set_option maxHeartbeats 8000000 in
theorem eq_Sv {d : ServD} {w : World} {F F' : Nat → Prop} {C C' : Array Value} (h : AtSv d w F (.agg C)) (h' : AtSv d w F' (.agg C')) (hz : d.Eqs) :
    Calls Tryz.prog 62 #[.agg C, .agg C'] w fun e w' => e = .returned (.bool true) ∧ Below w.heap.size w w' := by
  obtain ⟨A, n, c, A1, n1, c1, A2, n2, c2, A3, n3, c3, e, -, -, h1, h2, h3⟩ := h
  obtain ⟨A', n', c', A1', n1', c1', A2', n2', c2', A3', n3', c3', e', -, -, h1', h2', h3'⟩ := h'
  injection e with e
  injection e' with e'
  subst e e'
  obtain rfl : n = n' := h1.1.symm.trans h1'.1
  obtain rfl : n3 = n3' := h3.1.symm.trans h3'.1
  have hb0 := bel_trans (bel_alloc w (.cells #[.int .i64 d.x, .slice A n c, .slice A1 n1 c1, .slice A2 n2 c2, .slice A3 n3 c3] 104)) (bel_alloc _ (.cells #[.int .i64 d.x, .slice A' n c', .slice A1' n1' c1', .slice A2' n2' c2', .slice A3' n3 c3'] 104))
  have B := (Box.new w 104 #[.int .i64 d.x, .slice A n c, .slice A1 n1 c1, .slice A2 n2 c2, .slice A3 n3 c3]).alloc (.cells #[.int .i64 d.x, .slice A' n c', .slice A1' n1' c1', .slice A2' n2' c2', .slice A3' n3 c3'] 104)
  have B' := Box.new (w.alloc (.cells #[.int .i64 d.x, .slice A n c, .slice A1 n1 c1, .slice A2 n2 c2, .slice A3 n3 c3] 104)) 104 #[.int .i64 d.x, .slice A' n c', .slice A1' n1' c1', .slice A2' n2' c2', .slice A3' n3 c3']
  simp only [World.size_alloc] at B'
  have H1 := Lib.hid (h1.later hb0)
  have H1' := Lib.hid (h1'.later hb0)
  have H2 := Lib.hid ((keepsJ d.j).later h2 hb0)
  have H2' := Lib.hid ((keepsJ d.j).later h2' hb0)
  have H3 := Lib.hid (h3.later hb0)
  have H3' := Lib.hid (h3'.later hb0)
  have HN := Lib.hid (show n ≤ 1048576 from h1.1 ▸ hz.nr)
  have HN3 := Lib.hid (show n3 ≤ 1048576 from h3.1 ▸ hz.nn)
  clear h1 h1' h2 h2' h3 h3'
  have hxx : (d.x != d.x) = false := by simp
  go_enter Tryz.func62, Tryz.ntmps62
  go_upto_region 1 with fail
  generalize ((w.alloc _).alloc _ : World) = w0 at hb0 B B' H1 H1' H2 H2' H3 H3' ⊢
  obtain ⟨b0, b1, b2, b3, b4⟩ := B.five
  obtain ⟨d0, d1, d2, d3, d4⟩ := B'.five
  go_upto_region 5 with (go_at_call 120; refine (eq_RF H1.out H1'.out HN.out hz.rs).mono ?_; rintro e w1 ⟨rfl, hb⟩)
  replace hb0 := bel_trans hb0 hb
  replace B := B.later hb B.lt
  replace B' := B'.later hb B'.lt
  replace H2 := Lib.hid ((keepsJ d.j).later H2.out hb)
  replace H2' := Lib.hid ((keepsJ d.j).later H2'.out hb)
  replace H3 := Lib.hid (H3.out.later hb)
  replace H3' := Lib.hid (H3'.out.later hb)
  clear hb b0 b1 b2 b3 b4 d0 d1 d2 d3 d4 H1 H1'
  obtain ⟨b0, b1, b2, b3, b4⟩ := B.five
  obtain ⟨d0, d1, d2, d3, d4⟩ := B'.five
  go_upto_region 7 with (go_at_call 29; refine (eq_J H2.out H2'.out hz.j).mono ?_; rintro e w2 ⟨rfl, hb⟩)
  replace hb0 := bel_trans hb0 hb
  replace B := B.later hb B.lt
  replace B' := B'.later hb B'.lt
  replace H3 := Lib.hid (H3.out.later hb)
  replace H3' := Lib.hid (H3'.out.later hb)
  clear hb b0 b1 b2 b3 b4 d0 d1 d2 d3 d4 H2 H2'
  obtain ⟨b0, b1, b2, b3, b4⟩ := B.five
  obtain ⟨d0, d1, d2, d3, d4⟩ := B'.five
  go_wp2_with (go_at_call 121; refine (eq_NF H3.out H3'.out HN3.out hz.ns).mono ?_; rintro e w3 ⟨rfl, hb⟩)
  replace hb0 := bel_trans hb0 hb
  clear hb b0 b1 b2 b3 b4 d0 d1 d2 d3 d4 H3 H3' B B'
  go_wp2
  go_ret
  exact ⟨rfl, hb0⟩
end Go.Proofs.YtjdepjpjjgkmbaaGreat

/- Records of one's own, a cell or a list of one of them written; conditions: the sizes. -/
namespace Go.Proofs.YtjdepjpjjgkmbaaGreat
open Go Go.RowKit

theorem upD_same (D : Nat → RecD) (i : Nat) (d : RecD) : upD D i d i = d := by simp [upD]
theorem upD_twice (D : Nat → RecD) (i : Nat) (a b : RecD) : upD (upD D i a) i b = upD D i b := by
  funext j
  unfold upD
  split <;> rfl
theorem far9 (w : World) (g : Nat) (v : Value) {a b : Nat} (h : a ≠ b) : (w.setCell ⟨g, a, none⟩ v).cell? ⟨g, b, none⟩ = w.cell? ⟨g, b, none⟩ := World.cell?_setCell_other _ _ _ _ (fun e => h (by injection e))
/-- One cell of one of them is written. -/
theorem RecsAt.cell {w : World} {g n : Nat} {D : Nat → RecD} {Fs : Nat → Nat → Prop} (h : RecsAt w g n D Fs) {i : Nat} (hi : i < n) {j : Nat} (hj : j < 9) (v : Value) (d' : RecD) (hps : d'.ps = (D i).ps) (hc : ∀ u, (d'.cells u).toList = ((D i).cells u).toList.set j v) :
    RecsAt (w.setCell ⟨g, i * 9 + j, none⟩ v) g n (upD D i d') Fs := by
  have ht := turns_setCells9 g [v] (i * 9 + j) w
  have hsz : (w.setCell ⟨g, i * 9 + j, none⟩ v).heap.size = w.heap.size := size_set _ _ _
  refine ⟨by rw [hsz]; exact h.lt, fun o => (World.frozen?_setCell _ _ _ _).trans (h.fr o), fun k hk => ?_, h.apart, h.two⟩
  obtain ⟨u, h1, h2⟩ := h.row k hk
  by_cases e : k = i
  · subst e
    rw [upD_same]
    refine ⟨u, fun p x hx => ?_, ?_⟩
    · rw [hc u] at hx
      by_cases hp : p = j
      · subst hp
        have hl : p < ((D k).cells u).toList.length := by rw [cells_len]; exact hj
        rw [List.getElem?_set_self hl] at hx
        injection hx with hx
        subst hx
        obtain ⟨y, hy⟩ : ∃ y, ((D k).cells u).toList[p]? = some y := ⟨_, List.getElem?_eq_getElem hl⟩
        exact World.cell?_setCell_same' _ _ _ (by rw [h1 p y hy]; rfl)
      · rw [List.getElem?_set_ne (Ne.symm hp)] at hx
        exact (far9 w g v (by omega)).trans (h1 p x hx)
    · obtain ⟨u2, e2, hO⟩ := h2
      injection e2 with e2
      have hu : u = u2 := by simpa [RecD.cells] using e2
      subst hu
      exact ⟨u, rfl, hps ▸ hO.turn ht (h.apart k hk)⟩
  · have hd : upD D i d' k = D k := by simp [upD, e]
    rw [hd]
    refine ⟨u, fun p x hx => ?_, (keepsLC _).turn h2 ht (h.apart k hk)⟩
    have hp : p < 9 := by
      have := (List.getElem?_eq_some_iff.1 hx).1
      rwa [cells_len] at this
    exact (far9 w g v (by omega)).trans (h1 p x hx)
/-- The seven numbers ahead of the list are written. -/
theorem RecsAt.seven {w : World} {g n : Nat} {D : Nat → RecD} {Fs : Nat → Nat → Prop} (h : RecsAt w g n D Fs) {i : Nat} (hi : i < n) (x0 x1 x2 x3 x4 x5 x6 : Int) :
    RecsAt (((((((w.setCell ⟨g, i * 9, none⟩ (.int .i64 x0)).setCell ⟨g, i * 9 + 1, none⟩ (.int .i64 x1)).setCell ⟨g, i * 9 + 2, none⟩ (.int .i64 x2)).setCell ⟨g, i * 9 + 3, none⟩ (.int .i64 x3)).setCell ⟨g, i * 9 + 4, none⟩ (.int .i64 x4)).setCell ⟨g, i * 9 + 5, none⟩ (.int .i64 x5)).setCell ⟨g, i * 9 + 6, none⟩ (.int .i64 x6)) g n (upD D i ⟨x0, x1, x2, x3, x4, x5, x6, (D i).ps, (D i).r8⟩) Fs := by
  have h0 := h.cell hi (j := 0) (by omega) (.int .i64 x0) ⟨x0, (D i).r2, (D i).r3, (D i).r4, (D i).r5, (D i).r6, (D i).r7, (D i).ps, (D i).r8⟩ rfl (fun _ => rfl)
  have h1 := h0.cell hi (j := 1) (by omega) (.int .i64 x1) ⟨x0, x1, (D i).r3, (D i).r4, (D i).r5, (D i).r6, (D i).r7, (D i).ps, (D i).r8⟩ (by rw [upD_same]) (fun _ => by rw [upD_same]; rfl)
  rw [upD_twice] at h1
  have h2 := h1.cell hi (j := 2) (by omega) (.int .i64 x2) ⟨x0, x1, x2, (D i).r4, (D i).r5, (D i).r6, (D i).r7, (D i).ps, (D i).r8⟩ (by rw [upD_same]) (fun _ => by rw [upD_same]; rfl)
  rw [upD_twice] at h2
  have h3 := h2.cell hi (j := 3) (by omega) (.int .i64 x3) ⟨x0, x1, x2, x3, (D i).r5, (D i).r6, (D i).r7, (D i).ps, (D i).r8⟩ (by rw [upD_same]) (fun _ => by rw [upD_same]; rfl)
  rw [upD_twice] at h3
  have h4 := h3.cell hi (j := 4) (by omega) (.int .i64 x4) ⟨x0, x1, x2, x3, x4, (D i).r6, (D i).r7, (D i).ps, (D i).r8⟩ (by rw [upD_same]) (fun _ => by rw [upD_same]; rfl)
  rw [upD_twice] at h4
  have h5 := h4.cell hi (j := 5) (by omega) (.int .i64 x5) ⟨x0, x1, x2, x3, x4, x5, (D i).r7, (D i).ps, (D i).r8⟩ (by rw [upD_same]) (fun _ => by rw [upD_same]; rfl)
  rw [upD_twice] at h5
  have h6 := h5.cell hi (j := 6) (by omega) (.int .i64 x6) ⟨x0, x1, x2, x3, x4, x5, x6, (D i).ps, (D i).r8⟩ (by rw [upD_same]) (fun _ => by rw [upD_same]; rfl)
  rw [upD_twice] at h6
  exact h6
/-- The list of one of them is written. -/
theorem RecsAt.list {w w' : World} {g n : Nat} {D : Nat → RecD} {Fs : Nat → Nat → Prop} (h : RecsAt w g n D Fs) {i : Nat} (hi : i < n) {T : Nat → Prop} (ht : Turns T w w') (hT : ∀ b, T b → Fs i b) {u : Value} {ps' : List (Int × Int)} (hu : w.cell? ⟨g, i * 9 + 7, none⟩ = some u) (hO : OwnP w' (Fs i) u ps') :
    RecsAt w' g n (upD D i ⟨(D i).r1, (D i).r2, (D i).r3, (D i).r4, (D i).r5, (D i).r6, (D i).r7, ps', (D i).r8⟩) Fs := by
  have hg : ¬ T g := fun hb => h.apart i hi g (hT g hb) rfl
  refine ⟨Nat.lt_of_lt_of_le h.lt ht.size, fun o => (ht.frozen h.lt hg o).trans (h.fr o), fun k hk => ?_, h.apart, h.two⟩
  obtain ⟨u1, h1, h2⟩ := h.row k hk
  by_cases e : k = i
  · subst e
    rw [upD_same]
    have hc : w.cell? ⟨g, k * 9 + 7, none⟩ = some u1 := h1 7 u1 rfl
    rw [hu] at hc
    injection hc with hc
    subst hc
    exact ⟨u, fun p x hx => (ht.cell h.lt hg _).trans (h1 p x hx), u, rfl, hO⟩
  · have hd : upD D i ⟨(D i).r1, (D i).r2, (D i).r3, (D i).r4, (D i).r5, (D i).r6, (D i).r7, ps', (D i).r8⟩ k = D k := by simp [upD, e]
    rw [hd]
    exact ⟨u1, fun p x hx => (ht.cell h.lt hg _).trans (h1 p x hx), (keepsLC _).turn h2 ht (fun b hb hb2 => h.two k i hk hi e b hb (hT b hb2))⟩
end Go.Proofs.YtjdepjpjjgkmbaaGreat

/- The laws' mark on a list of records of one's own; conditions: the sizes. -/
namespace Go.Proofs.YtjdepjpjjgkmbaaGreat
open Go Go.RowKit

theorem ownP_res9 {w : World} {F : Nat → Prop} {u : Value} {ps : List (Int × Int)} (h : OwnP w F u ps) : ∃ lo hi, ResP w lo hi u ps ∧ ∀ b, Iv lo hi b → F b := ownP_res h
theorem resP_own {w : World} {lo hi : Nat} {F : Nat → Prop} {u : Value} {ps : List (Int × Int)} (h : ResP w lo hi u ps) (hF : ∀ b, Iv lo hi b → F b) : OwnP w F u ps := by
  rcases h with h | ⟨g, cap, h1, h2, h3, h4, h5, h6⟩
  · exact .inl h
  · exact .inr ⟨g, cap, hF g ⟨h1, h2⟩, h3, h4, h5, h6⟩

end Go.Proofs.YtjdepjpjjgkmbaaGreat

/- The laws' marks on lists of one's own that may be empty, wherever those point; conditions: the sizes. -/
namespace Go.Proofs.YtjdepjpjjgkmbaaGreat
open Go Go.RowKit

theorem mark_zero (A : Option Addr) (cap : Nat) (k : Int) (w : World) : Calls Tryz.prog 36 #[.slice A 0 cap, .int .i64 k] w fun e w' => e = .returned (.int .i64 k) ∧ w = w' := by
  go_enter Tryz.func36, Tryz.ntmps36
  go_wp2_with fail
  go_loopw [1, 5] (fun kv iv wr => iv = .int .i64 0 ∧ kv = .int .i64 k ∧ w = wr) (fun _ _ _ => 0)
  case atStart => exact ⟨rfl, rfl, rfl⟩
  case round =>
    obtain ⟨rfl, rfl, rfl⟩ := hrel
    go_wp2
    go_ret
    exact ⟨rfl, rfl⟩
theorem held_zero (A : Option Addr) (cap : Nat) (k : Int) (w : World) : Calls Tryz.prog 107 #[.slice A 0 cap, .int .i64 k] w fun e w' => e = .returned (.int .i64 k) ∧ w = w' := by
  go_enter Tryz.func107, Tryz.ntmps107
  go_wp2_with fail
  go_loopw [1, 5] (fun kv iv wr => iv = .int .i64 0 ∧ kv = .int .i64 k ∧ w = wr) (fun _ _ _ => 0)
  case atStart => exact ⟨rfl, rfl, rfl⟩
  case round =>
    obtain ⟨rfl, rfl, rfl⟩ := hrel
    go_wp2
    go_ret
    exact ⟨rfl, rfl⟩
theorem markOpens_zero (A : Option Addr) (cap : Nat) (k : Int) (w : World) : Calls Tryz.prog 106 #[.slice A 0 cap, .int .i64 k] w fun e w' => e = .returned (.int .i64 k) ∧ w = w' := by
  go_enter Tryz.func106, Tryz.ntmps106
  go_wp2_with fail
  go_loopw [1, 5] (fun kv iv wr => iv = .int .i64 0 ∧ kv = .int .i64 k ∧ w = wr) (fun _ _ _ => 0)
  case atStart => exact ⟨rfl, rfl, rfl⟩
  case round =>
    obtain ⟨rfl, rfl, rfl⟩ := hrel
    go_wp2
    go_ret
    exact ⟨rfl, rfl⟩
theorem heldOpens_zero (A : Option Addr) (cap : Nat) (k : Int) (w : World) : Calls Tryz.prog 108 #[.slice A 0 cap, .int .i64 k] w fun e w' => e = .returned (.int .i64 k) ∧ w = w' := by
  go_enter Tryz.func108, Tryz.ntmps108
  go_wp2_with fail
  go_loopw [1, 5] (fun kv iv wr => iv = .int .i64 0 ∧ kv = .int .i64 k ∧ w = wr) (fun _ _ _ => 0)
  case atStart => exact ⟨rfl, rfl, rfl⟩
  case round =>
    obtain ⟨rfl, rfl, rfl⟩ := hrel
    go_wp2
    go_ret
    exact ⟨rfl, rfl⟩
theorem markPE_is {wr : World} {lo hi : Nat} {u : Value} {D : List (Int × Int)} (k : Int) (h : ResE wr lo hi u D) (hn : D.length ≤ 1048577) (hk0 : 0 ≤ k) (hk1 : k ≤ 50000000) :
    Calls Tryz.prog 36 #[u, .int .i64 k] wr fun e w' => e = .returned (.int .i64 (k + 2 * D.length)) ∧ ∃ D', D'.length = D.length ∧ Marked k D' ∧ ResE w' lo hi u D' ∧ Band lo hi wr w' := by
  by_cases hp : 0 < D.length
  · have hr : ResP wr lo hi u D := by
      rcases h with h | ⟨g, cap, h0, h0', h1, h2, h3, h4⟩
      · exact .inl h
      · exact .inr ⟨g, cap, h0, h0', h1, h2, h3, h4 hp⟩
    refine (markP_is k hr hn hk0 hk1).mono ?_
    rintro e w' ⟨rfl, D', h1, h2, h3, h4⟩
    refine ⟨rfl, D', h1, h2, ?_, h4⟩
    rcases h3 with h | ⟨g, cap, h0, h0', h1, h2, h3, h4⟩
    · exact .inl h
    · exact .inr ⟨g, cap, h0, h0', h1, h2, h3, fun _ => h4⟩
  · have hd : D = [] := List.eq_nil_of_length_eq_zero (by omega)
    subst hd
    have hu : ∃ A cap, u = .slice A 0 cap := by
      rcases h with ⟨h, -⟩ | ⟨g, cap, _, _, h, _⟩
      · exact ⟨_, _, h⟩
      · exact ⟨_, _, h⟩
    have HE := Lib.hid h
    clear h
    obtain ⟨A, cap, rfl⟩ := hu
    refine (mark_zero A cap k wr).mono ?_
    rintro e w' ⟨rfl, rfl⟩
    exact ⟨by simp, [], rfl, fun j hj => absurd hj (by simp), HE.out, Band.refl _ _ _⟩
theorem heldPE_is {wr : World} {lo hi : Nat} {u : Value} {D : List (Int × Int)} (k : Int) (h : ResE wr lo hi u D) (hM : Marked k D) (hn : D.length ≤ 1048577) (hk0 : 0 ≤ k) (hk1 : k ≤ 50000000) :
    Calls Tryz.prog 107 #[u, .int .i64 k] wr fun e w' => e = .returned (.int .i64 (k + 2 * D.length)) ∧ wr = w' := by
  by_cases hp : 0 < D.length
  · have hr : ResP wr lo hi u D := by
      rcases h with h | ⟨g, cap, h0, h0', h1, h2, h3, h4⟩
      · exact .inl h
      · exact .inr ⟨g, cap, h0, h0', h1, h2, h3, h4 hp⟩
    exact heldP_is k hr hM hn hk0 hk1
  · have hd : D = [] := List.eq_nil_of_length_eq_zero (by omega)
    subst hd
    have hu : ∃ A cap, u = .slice A 0 cap := by
      rcases h with ⟨h, -⟩ | ⟨g, cap, _, _, h, _⟩
      · exact ⟨_, _, h⟩
      · exact ⟨_, _, h⟩
    clear h
    obtain ⟨A, cap, rfl⟩ := hu
    refine (held_zero A cap k wr).mono ?_
    rintro e w' ⟨rfl, rfl⟩
    exact ⟨by simp, rfl⟩
theorem markQE_is {wr : World} {lo hi : Nat} {u : Value} {D : List Opn} (k : Int) (h : ResEQ wr lo hi u D) (hn : D.length ≤ 1048577) (hk0 : 0 ≤ k) (hk1 : k ≤ 50000000) :
    Calls Tryz.prog 106 #[u, .int .i64 k] wr fun e w' => e = .returned (.int .i64 (k + 4 * D.length)) ∧ ∃ D', D'.length = D.length ∧ MarkedQ k D' ∧ ResEQ w' lo hi u D' ∧ Band lo hi wr w' := by
  by_cases hp : 0 < D.length
  · have hr : ResQ wr lo hi u D := by
      rcases h with h | ⟨g, cap, h0, h0', h1, h2, h3, h4⟩
      · exact .inl h
      · exact .inr ⟨g, cap, h0, h0', h1, h2, h3, h4 hp⟩
    refine (markQ_is k hr hn hk0 hk1).mono ?_
    rintro e w' ⟨rfl, D', h1, h2, h3, h4⟩
    refine ⟨rfl, D', h1, h2, ?_, h4⟩
    rcases h3 with h | ⟨g, cap, h0, h0', h1, h2, h3, h4⟩
    · exact .inl h
    · exact .inr ⟨g, cap, h0, h0', h1, h2, h3, fun _ => h4⟩
  · have hd : D = [] := List.eq_nil_of_length_eq_zero (by omega)
    subst hd
    have hu : ∃ A cap, u = .slice A 0 cap := by
      rcases h with ⟨h, -⟩ | ⟨g, cap, _, _, h, _⟩
      · exact ⟨_, _, h⟩
      · exact ⟨_, _, h⟩
    have HE := Lib.hid h
    clear h
    obtain ⟨A, cap, rfl⟩ := hu
    refine (markOpens_zero A cap k wr).mono ?_
    rintro e w' ⟨rfl, rfl⟩
    exact ⟨by simp, [], rfl, fun j hj => absurd hj (by simp), HE.out, Band.refl _ _ _⟩
theorem heldQE_is {wr : World} {lo hi : Nat} {u : Value} {D : List Opn} (k : Int) (h : ResEQ wr lo hi u D) (hM : MarkedQ k D) (hn : D.length ≤ 1048577) (hk0 : 0 ≤ k) (hk1 : k ≤ 50000000) :
    Calls Tryz.prog 108 #[u, .int .i64 k] wr fun e w' => e = .returned (.int .i64 (k + 4 * D.length)) ∧ wr = w' := by
  by_cases hp : 0 < D.length
  · have hr : ResQ wr lo hi u D := by
      rcases h with h | ⟨g, cap, h0, h0', h1, h2, h3, h4⟩
      · exact .inl h
      · exact .inr ⟨g, cap, h0, h0', h1, h2, h3, h4 hp⟩
    exact heldQ_is k hr hM hn hk0 hk1
  · have hd : D = [] := List.eq_nil_of_length_eq_zero (by omega)
    subst hd
    have hu : ∃ A cap, u = .slice A 0 cap := by
      rcases h with ⟨h, -⟩ | ⟨g, cap, _, _, h, _⟩
      · exact ⟨_, _, h⟩
      · exact ⟨_, _, h⟩
    clear h
    obtain ⟨A, cap, rfl⟩ := hu
    refine (heldOpens_zero A cap k wr).mono ?_
    rintro e w' ⟨rfl, rfl⟩
    exact ⟨by simp, rfl⟩
end Go.Proofs.YtjdepjpjjgkmbaaGreat

namespace Go.Proofs.YtjdepjpjjgkmbaaGreat
open Go Go.RowKit

def rowE (d : RegD) (u v : Value) : List Value := [.int .i64 d.t, .int .i64 d.q, .int .i64 d.v, u, v]
def upR (D : Nat → RegD) (i : Nat) (d : RegD) : Nat → RegD := fun j => if j = i then d else D j
theorem upR_same (D : Nat → RegD) (i : Nat) (d : RegD) : upR D i d i = d := by simp [upR]
theorem upR_twice (D : Nat → RegD) (i : Nat) (a b : RegD) : upR (upR D i a) i b = upR D i b := by
  funext j
  unfold upR
  split <;> rfl
/-- The block g holds n shelves, D of them; the lists of the one at place i lie in blocks of Fs i, apart from all others'. -/
structure RegsE (w : World) (g n : Nat) (D : Nat → RegD) (Fs : Nat → Nat → Prop) : Prop where
  lt : g < w.heap.size
  fr : ∀ o, w.frozen? ⟨g, o, none⟩ = false
  row : ∀ i, i < n → ∃ u v, w.rangeAt g (i * 5) (rowE (D i) u v) ∧ LieE (D i) w (Fs i) (.agg (rowE (D i) u v).toArray)
  apart : ∀ i, i < n → ∀ b, Fs i b → b ≠ g
  two : ∀ i j, i < n → j < n → i ≠ j → ∀ b, Fs i b → ¬ Fs j b
theorem RegsOwn.rangesE {w : World} {g lo : Nat} {rs : List RegD} (h : RegsOwn LieE w g lo rs) : ∃ Fs, RegsE w g rs.length (regOf rs) Fs ∧ ∀ i, i < rs.length → ∀ b, Fs i b → lo ≤ b ∧ b < w.heap.size := by
  obtain ⟨_, Fs, hR, hF⟩ := h
  refine ⟨Fs, ⟨hR.lt, hR.frozen, fun i hi => ?_, hR.apart, hR.two⟩, hF⟩
  obtain ⟨u, v, c0, c1, c2, c3, c4, hL⟩ := hR.get hi
  have hd : regOf rs i = rs[i] := by
    unfold regOf
    rw [List.getD_eq_getElem?_getD, List.getElem?_eq_getElem hi]
    rfl
  rw [hd]
  refine ⟨u, v, fun j x hx => ?_, hL⟩
  unfold rowE at hx
  match j, hx with
  | 0, hx => injection hx with hx; subst hx; exact c0
  | 1, hx => injection hx with hx; subst hx; exact c1
  | 2, hx => injection hx with hx; subst hx; exact c2
  | 3, hx => injection hx with hx; subst hx; exact c3
  | 4, hx => injection hx with hx; subst hx; exact c4
  | j + 5, hx => simp at hx
theorem LieE.same {d d' : RegD} {w : World} {F : Nat → Prop} {u v : Value} (h : LieE d w F (.agg (rowE d u v).toArray)) (hps : d'.ps = d.ps) (hos : d'.os = d.os) : LieE d' w F (.agg (rowE d' u v).toArray) := by
  obtain ⟨A, n, c, A', n', c', lo, B, hi, e, h1, h2, h3⟩ := h
  have hu : u = .slice A n c ∧ v = .slice A' n' c' := by simpa [rowE] using e
  refine ⟨A, n, c, A', n', c', lo, B, hi, by rw [hu.1, hu.2]; rfl, hps ▸ h1, hos ▸ h2, h3⟩
theorem rowE_len (d : RegD) (u v : Value) : (rowE d u v).length = 5 := rfl
/-- One number of one of them is written. -/
theorem RegsE.cell {w : World} {g n : Nat} {D : Nat → RegD} {Fs : Nat → Nat → Prop} (h : RegsE w g n D Fs) {i : Nat} (hi : i < n) {j : Nat} (hj : j < 5) (x : Value) (d' : RegD) (hps : d'.ps = (D i).ps) (hos : d'.os = (D i).os) (hc : ∀ u v, rowE d' u v = (rowE (D i) u v).set j x) :
    RegsE (w.setCell ⟨g, i * 5 + j, none⟩ x) g n (upR D i d') Fs := by
  have ht := turns_cell5 w g (i * 5 + j) x
  have hsz : (w.setCell ⟨g, i * 5 + j, none⟩ x).heap.size = w.heap.size := size_set _ _ _
  refine ⟨by rw [hsz]; exact h.lt, fun o => (World.frozen?_setCell _ _ _ _).trans (h.fr o), fun k hk => ?_, h.apart, h.two⟩
  obtain ⟨u, v, h1, h2⟩ := h.row k hk
  by_cases e : k = i
  · subst e
    rw [upR_same]
    refine ⟨u, v, fun p y hy => ?_, ((keepsLE _).turn h2 ht (h.apart k hk)).same hps hos⟩
    rw [hc u v] at hy
    by_cases hp : p = j
    · subst hp
      have hl : p < (rowE (D k) u v).length := by rw [rowE_len]; exact hj
      rw [List.getElem?_set_self hl] at hy
      injection hy with hy
      subst hy
      obtain ⟨z, hz⟩ : ∃ z, (rowE (D k) u v)[p]? = some z := ⟨_, List.getElem?_eq_getElem hl⟩
      exact World.cell?_setCell_same' _ _ _ (by rw [h1 p z hz]; rfl)
    · rw [List.getElem?_set_ne (Ne.symm hp)] at hy
      exact (far9 w g x (by omega)).trans (h1 p y hy)
  · have hd : upR D i d' k = D k := by simp [upR, e]
    rw [hd]
    refine ⟨u, v, fun p y hy => ?_, (keepsLE _).turn h2 ht (h.apart k hk)⟩
    have hp : p < 5 := by
      have := (List.getElem?_eq_some_iff.1 hy).1
      rwa [rowE_len] at this
    exact (far9 w g x (by omega)).trans (h1 p y hy)
/-- The three numbers ahead of the lists are written. -/
theorem RegsE.three {w : World} {g n : Nat} {D : Nat → RegD} {Fs : Nat → Nat → Prop} (h : RegsE w g n D Fs) {i : Nat} (hi : i < n) (x0 x1 x2 : Int) :
    RegsE (((w.setCell ⟨g, i * 5, none⟩ (.int .i64 x0)).setCell ⟨g, i * 5 + 1, none⟩ (.int .i64 x1)).setCell ⟨g, i * 5 + 2, none⟩ (.int .i64 x2)) g n (upR D i ⟨x0, x1, x2, (D i).ps, (D i).os⟩) Fs := by
  have h0 := h.cell hi (j := 0) (by omega) (.int .i64 x0) ⟨x0, (D i).q, (D i).v, (D i).ps, (D i).os⟩ rfl rfl (fun _ _ => rfl)
  have h1 := h0.cell hi (j := 1) (by omega) (.int .i64 x1) ⟨x0, x1, (D i).v, (D i).ps, (D i).os⟩ (by rw [upR_same]) (by rw [upR_same]) (fun _ _ => by rw [upR_same]; rfl)
  rw [upR_twice] at h1
  have h2 := h1.cell hi (j := 2) (by omega) (.int .i64 x2) ⟨x0, x1, x2, (D i).ps, (D i).os⟩ (by rw [upR_same]) (by rw [upR_same]) (fun _ _ => by rw [upR_same]; rfl)
  rw [upR_twice] at h2
  exact h2
/-- The lists of one of them are written. -/
theorem RegsE.lists {w w' : World} {g n : Nat} {D : Nat → RegD} {Fs : Nat → Nat → Prop} (h : RegsE w g n D Fs) {i : Nat} (hi : i < n) {T : Nat → Prop} (ht : Turns T w w') (hT : ∀ b, T b → Fs i b) {d' : RegD} {u v : Value} (hu : w.cell? ⟨g, i * 5 + 3, none⟩ = some u) (hv : w.cell? ⟨g, i * 5 + 4, none⟩ = some v) (h3 : d'.t = (D i).t ∧ d'.q = (D i).q ∧ d'.v = (D i).v) (hL : LieE d' w' (Fs i) (.agg (rowE d' u v).toArray)) :
    RegsE w' g n (upR D i d') Fs := by
  have hg : ¬ T g := fun hb => h.apart i hi g (hT g hb) rfl
  refine ⟨Nat.lt_of_lt_of_le h.lt ht.size, fun o => (ht.frozen h.lt hg o).trans (h.fr o), fun k hk => ?_, h.apart, h.two⟩
  obtain ⟨u1, v1, h1, h2⟩ := h.row k hk
  by_cases e : k = i
  · subst e
    rw [upR_same]
    have hc : w.cell? ⟨g, k * 5 + 3, none⟩ = some u1 := h1 3 u1 rfl
    have hc2 : w.cell? ⟨g, k * 5 + 4, none⟩ = some v1 := h1 4 v1 rfl
    rw [hu] at hc
    rw [hv] at hc2
    injection hc with hc
    injection hc2 with hc2
    subst hc hc2
    refine ⟨u, v, fun p x hx => (ht.cell h.lt hg _).trans (h1 p x ?_), hL⟩
    unfold rowE at hx ⊢
    rw [h3.1, h3.2.1, h3.2.2] at hx
    exact hx
  · have hd : upR D i d' k = D k := by simp [upR, e]
    rw [hd]
    exact ⟨u1, v1, fun p x hx => (ht.cell h.lt hg _).trans (h1 p x hx), (keepsLE _).turn h2 ht (fun b hb hb2 => h.two k i hk hi e b hb (hT b hb2))⟩
end Go.Proofs.YtjdepjpjjgkmbaaGreat
