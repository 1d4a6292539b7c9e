/- What the walks of chapter 8 keep: a group, a shelf and a note in their boxes, the keys and the lists; no conditions. -/
import Derived.Test.YtjdepjpjjgkmbaaGreatReadyBase
import Derived.Test.YtjdepjpjjgkmbaaGreatReg3
namespace Go.Proofs.YtjdepjpjjgkmbaaGreat
open Go.RowKit

theorem slc_prs {w : World} {P : Option Addr} {p pc : Nat} {ps : List (Int × Int)} (h : Slc w (.slice P p pc) ps) : Pairs w w.heap.size P p ps := by
  rcases h with ⟨h, rfl⟩ | ⟨b, o, n, cap, h, hp⟩
  · cases h
    exact ⟨rfl, fun h => absurd h (by omega)⟩
  · cases h
    exact hp
theorem slcQ_qds {w : World} {P : Option Addr} {p pc : Nat} {os : List Opn} (h : SlcQ w (.slice P p pc) os) : Quads w w.heap.size P p os := by
  rcases h with ⟨h, rfl⟩ | ⟨b, o, n, cap, h, _, _, hp⟩
  · cases h
    exact quads_nil _ _ _
  · cases h
    exact hp

/-- What can be read of a group, a shelf and a note. -/
structure In8 (w : World) (A : Option Addr) (n : Nat) (zs : List Int) (X : Option Addr) (x xc : Nat) (ps : List (Int × Int)) (Y : Option Addr) (y yc : Nat) (os : List Opn) (P : Option Addr) (p : Nat) (cs : List (Int × Int)) (Q : Option Addr) (q : Nat) (ms : List (Int × Int)) : Prop where
  hn : n ≤ maxLen
  hx : x ≤ 2000000
  hy : y ≤ 2000000
  hp : p ≤ 2000000
  hq : q ≤ 2000000
  row : Row w w.heap.size A n zs
  slc : Slc w (.slice X x xc) ps
  slq : SlcQ w (.slice Y y yc) os
  crs : Pairs w w.heap.size P p cs
  mrs : Pairs w w.heap.size Q q ms

section
variable {s l c sh : Int} {A : Option Addr} {n cap : Nat} {zs : List Int} {rt rq rv : Int} {X : Option Addr} {x xc : Nat} {ps : List (Int × Int)} {Y : Option Addr} {y yc : Nat} {os : List Opn} {N : Array Value} {k1 k2 k3 k4 k5 t1 t2 v1 o1 o2 v2 : Int} {P : Option Addr} {p pc : Nat} {Q : Option Addr} {q qc : Nat} {l1 l2 v3 : Int} {cs ms : List (Int × Int)} {w : World}
theorem In8.later (h : In8 w A n zs X x xc ps Y y yc os P p cs Q q ms) {w' : World} (hb : Below w.heap.size w w') : In8 w' A n zs X x xc ps Y y yc os P p cs Q q ms :=
  ⟨h.hn, h.hx, h.hy, h.hp, h.hq, (h.row.below hb (Nat.le_refl _)).more hb.size, h.slc.later hb, h.slq.later hb, h.crs.later hb, h.mrs.later hb⟩
theorem In8.prs (h : In8 w A n zs X x xc ps Y y yc os P p cs Q q ms) : Pairs w w.heap.size X x ps := slc_prs h.slc
theorem In8.ops (h : In8 w A n zs X x xc ps Y y yc os P p cs Q q ms) : Quads w w.heap.size Y y os := slcQ_qds h.slq
theorem In8.lx (h : In8 w A n zs X x xc ps Y y yc os P p cs Q q ms) : ps.length ≤ 2000000 := by have := h.prs.1; have := h.hx; omega
theorem In8.ly (h : In8 w A n zs X x xc ps Y y yc os P p cs Q q ms) : os.length ≤ 2000000 := by have := h.ops.1; have := h.hy; omega
end

/-- What a walk over a group, a shelf and a note keeps: their boxes too. -/
structure K8 (w wr : World) (N : Array Value) (s l c sh : Int) (A : Option Addr) (n cap : Nat) (zs : List Int) (rt rq rv : Int) (X : Option Addr) (x xc : Nat) (ps : List (Int × Int)) (Y : Option Addr) (y yc : Nat) (os : List Opn) (P : Option Addr) (p : Nat) (cs : List (Int × Int)) (Q : Option Addr) (q : Nat) (ms : List (Int × Int)) : Prop where
  gb : Box wr w.heap.size 26 #[.int .i64 s, .int .i64 l, .int .i64 c, .int .i64 sh, .slice A n cap]
  rb : Box wr (w.heap.size + 1) 80 #[.int .i64 rt, .int .i64 rq, .int .i64 rv, .slice X x xc, .slice Y y yc]
  nb : Box wr (w.heap.size + 1 + 1) 85 N
  inp : In8 wr A n zs X x xc ps Y y yc os P p cs Q q ms
  bel : Below w.heap.size w wr

section
variable {s l c sh : Int} {A : Option Addr} {n cap : Nat} {zs : List Int} {rt rq rv : Int} {X : Option Addr} {x xc : Nat} {ps : List (Int × Int)} {Y : Option Addr} {y yc : Nat} {os : List Opn} {N : Array Value} {k1 k2 k3 k4 k5 t1 t2 v1 o1 o2 v2 : Int} {P : Option Addr} {p pc : Nat} {Q : Option Addr} {q qc : Nat} {l1 l2 v3 : Int} {cs ms : List (Int × Int)} {w : World}
theorem K8.later {wr w' : World} (h : K8 w wr N s l c sh A n cap zs rt rq rv X x xc ps Y y yc os P p cs Q q ms) (hb : Below wr.heap.size wr w') : K8 w w' N s l c sh A n cap zs rt rq rv X x xc ps Y y yc os P p cs Q q ms :=
  ⟨h.gb.later hb h.gb.lt, h.rb.later hb h.rb.lt, h.nb.later hb h.nb.lt, h.inp.later hb, bel_trans h.bel hb⟩
theorem K8.start (w : World) (N : Array Value) (s l c sh : Int) (cap : Nat) (rt rq rv : Int) (h : In8 w A n zs X x xc ps Y y yc os P p cs Q q ms) :
    K8 w (((w.alloc (.cells #[.int .i64 s, .int .i64 l, .int .i64 c, .int .i64 sh, .slice A n cap] 26)).alloc (.cells #[.int .i64 rt, .int .i64 rq, .int .i64 rv, .slice X x xc, .slice Y y yc] 80)).alloc (.cells N 85)) N s l c sh A n cap zs rt rq rv X x xc ps Y y yc os P p cs Q q ms := by
  have E := bel_trans (bel_trans (bel_alloc w (.cells #[.int .i64 s, .int .i64 l, .int .i64 c, .int .i64 sh, .slice A n cap] 26)) (bel_alloc _ (.cells #[.int .i64 rt, .int .i64 rq, .int .i64 rv, .slice X x xc, .slice Y y yc] 80))) (bel_alloc _ (.cells N 85))
  have D := Box.new (w.alloc (.cells #[.int .i64 s, .int .i64 l, .int .i64 c, .int .i64 sh, .slice A n cap] 26)) 80 #[.int .i64 rt, .int .i64 rq, .int .i64 rv, .slice X x xc, .slice Y y yc]
  have F := Box.new ((w.alloc (.cells #[.int .i64 s, .int .i64 l, .int .i64 c, .int .i64 sh, .slice A n cap] 26)).alloc (.cells #[.int .i64 rt, .int .i64 rq, .int .i64 rv, .slice X x xc, .slice Y y yc] 80)) 85 N
  simp only [World.size_alloc] at D F
  exact ⟨((Box.new w _ _).alloc _).alloc _, D.alloc _, F, h.later E, E⟩
end

end Go.Proofs.YtjdepjpjjgkmbaaGreat

/- The open that a note asks for: a contract; no conditions. -/
namespace Go.Proofs.YtjdepjpjjgkmbaaGreat
open Go.RowKit

section
variable {N : Array Value} {k1 k2 k3 k4 k5 t1 t2 v1 o1 o2 v2 : Int} {P : Option Addr} {p pc : Nat} {Q : Option Addr} {q qc : Nat} {l1 l2 v3 : Int}
set_option maxHeartbeats 1000000 in
theorem openFor_is (hN : N = #[.int .i64 k1, .int .i64 k2, .int .i64 k3, .int .i64 k4, .int .i64 k5, .int .i64 t1, .int .i64 t2, .int .i64 v1, .int .i64 o1, .int .i64 o2, .int .i64 v2, .slice P p pc, .slice Q q qc, .int .i64 l1, .int .i64 l2, .int .i64 v3]) (w : World) :
    Calls Tryz.prog 103 #[.agg N] w fun e w' => e = .returned (.agg #[.int .i64 k2, .int .i64 t1, .int .i64 t2, .int .i64 v1]) ∧ Below w.heap.size w w' := by
  have D := (Box.new w 85 N).alloc (.cells #[.int .i64 0, .int .i64 0, .int .i64 0, .int .i64 0] 97)
  have Z := Box.new (w.alloc (.cells N 85)) 97 #[.int .i64 0, .int .i64 0, .int .i64 0, .int .i64 0]
  have E := bel_trans (bel_alloc w (.cells N 85)) (bel_alloc _ (.cells #[.int .i64 0, .int .i64 0, .int .i64 0, .int .i64 0] 97))
  simp only [World.size_alloc] at Z
  obtain ⟨n0, n1, n2, n3, n4, n5, n6, n7, n8, n9, n10, n11, n12, n13, n14, n15⟩ := cellsN hN
  clear hN n0 n2 n3 n4 n8 n9 n10 n11 n12 n13 n14 n15
  have cN := D.cell
  obtain ⟨z0, z1, z2, z3⟩ := Z.four
  have fz := Z.frozen
  have hz := Z.lt
  go_enter Tryz.func103, Tryz.ntmps103
  go_upto_region 1 with fail
  generalize ((w.alloc _).alloc _ : World) = w0 at D E Z cN z0 z1 z2 z3 fz hz ⊢
  go_wp2
  exact bodyPost_ret (v := .agg #[.int .i64 k2, .int .i64 t1, .int .i64 t2, .int .i64 v1]) (by simp [results, Tryz.results103, go_sem, z0, z1, z2, z3]) rfl ⟨rfl, by
    repeat (first | (with_reducible exact E) | refine Below.setCell ?_ (by simp; try omega) _)⟩
end

end Go.Proofs.YtjdepjpjjgkmbaaGreat
