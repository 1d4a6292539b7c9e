/- SameOpen and its model: contracts of both; conditions: the sizes. -/
import Derived.Test.YtdkmbcmenomecaaBoxWalk
import Derived.Test.YtdkmbcmenomecaaReg1
namespace Go.Proofs.Ytdkmbcmenomecaa
open Go Go.RowKit

/-- What SameOpen answers. -/
def sameB (os : List Opn) (k t q v : Int) : Bool := match getO os k with
  | none => false
  | some o => decide (o.2.1 = t ∧ o.2.2.1 = q) && decide (o.2.2.2 = v)
theorem same_none {os : List Opn} {k : Int} (h : getO os k = none) (t q v : Int) : sameB os k t q v = false := by simp [sameB, h]
theorem same_some {os : List Opn} {k : Int} {o : Opn} (h : getO os k = some o) (t q v : Int) : sameB os k t q v = (decide (o.2.1 = t ∧ o.2.2.1 = q) && decide (o.2.2.2 = v)) := by simp [sameB, h]
theorem getO_is {os : List Opn} {o : Opn} {k : Int} (h : getO os k = some o) : o.1 = k := by
  unfold getO at h
  simpa using List.find?_some h

section
variable {rt rq rv : Int} {X : Option Addr} {x xc : Nat} {Y : Option Addr} {y yc : Nat} {os : List Opn} {N : Array Value} {k1 k2 k3 k4 k5 t1 t2 v1 o1 o2 v2 : Int} {P : Option Addr} {p pc : Nat} {Q : Option Addr} {q qc : Nat} {l1 l2 v3 : Int} {w : World}

set_option maxHeartbeats 1000000 in
theorem openFor8_is (hN : N = #[.int .i64 k1, .int .i64 k2, .int .i64 k3, .int .i64 k4, .int .i64 k5, .int .i64 t1, .int .i64 t2, .int .i64 v1, .int .i64 o1, .int .i64 o2, .int .i64 v2, .slice P p pc, .slice Q q qc, .int .i64 l1, .int .i64 l2, .int .i64 v3]) (w : World) :
    Calls Try.prog 19 #[.agg N] w fun e w' => e = .returned (.agg #[.int .i64 k2, .int .i64 t1, .int .i64 t2, .int .i64 v1]) ∧ Below w.heap.size w w' := by
  have D := (Box.new w 40 N).alloc (.cells #[.int .i64 0, .int .i64 0, .int .i64 0, .int .i64 0] 48)
  have Z := Box.new (w.alloc (.cells N 40)) 48 #[.int .i64 0, .int .i64 0, .int .i64 0, .int .i64 0]
  have E := bel_trans (bel_alloc w (.cells N 40)) (bel_alloc _ (.cells #[.int .i64 0, .int .i64 0, .int .i64 0, .int .i64 0] 48))
  simp only [World.size_alloc] at Z
  obtain ⟨n0, n1, n2, n3, n4, n5, n6, n7, n8, n9, n10, n11, n12, n13, n14, n15⟩ := cellsN hN
  clear hN n0 n2 n3 n4 n8 n9 n10 n11 n12 n13 n14 n15
  have cN := D.cell
  obtain ⟨z0, z1, z2, z3⟩ := Z.four
  have fz := Z.frozen
  have hz := Z.lt
  go_enter Try.func19, Try.ntmps19
  go_upto_region 1 with fail
  generalize ((w.alloc _).alloc _ : World) = w0 at D E Z cN z0 z1 z2 z3 fz hz ⊢
  go_wp2
  exact bodyPost_ret (v := .agg #[.int .i64 k2, .int .i64 t1, .int .i64 t2, .int .i64 v1]) (by simp [results, Try.results19, go_sem, z0, z1, z2, z3]) rfl ⟨rfl, by
    repeat (first | (with_reducible exact E) | refine Below.setCell ?_ (by simp; try omega) _)⟩

/-- What the walks of SameOpen keep: the shelf's and the note's boxes, the opens. -/
structure SO (w wr : World) (N : Array Value) (rt rq rv : Int) (X : Option Addr) (x xc : Nat) (Y : Option Addr) (y yc : Nat) (os : List Opn) : Prop where
  rb : Box wr w.heap.size 37 #[.int .i64 rt, .int .i64 rq, .int .i64 rv, .slice X x xc, .slice Y y yc]
  nb : Box wr (w.heap.size + 1) 40 N
  ops : Quads wr wr.heap.size Y y os
  bel : Below w.heap.size w wr
theorem SO.later {wr w' : World} (h : SO w wr N rt rq rv X x xc Y y yc os) (hb : Below wr.heap.size wr w') : SO w w' N rt rq rv X x xc Y y yc os :=
  ⟨h.rb.later hb h.rb.lt, h.nb.later hb h.nb.lt, h.ops.later hb, bel_trans h.bel hb⟩
theorem SO.start (w : World) (N : Array Value) (rt rq rv : Int) (X : Option Addr) (x xc : Nat) (yc : Nat) (h : Quads w w.heap.size Y y os) :
    SO w ((w.alloc (.cells #[.int .i64 rt, .int .i64 rq, .int .i64 rv, .slice X x xc, .slice Y y yc] 37)).alloc (.cells N 40)) N rt rq rv X x xc Y y yc os := by
  have E := bel_trans (bel_alloc w (.cells #[.int .i64 rt, .int .i64 rq, .int .i64 rv, .slice X x xc, .slice Y y yc] 37)) (bel_alloc _ (.cells N 40))
  have D := Box.new (w.alloc (.cells #[.int .i64 rt, .int .i64 rq, .int .i64 rv, .slice X x xc, .slice Y y yc] 37)) 40 N
  simp only [World.size_alloc] at D
  exact ⟨(Box.new w _ _).alloc _, D, h.later E, E⟩

theorem same_cases {k a d v : Int} (hg : getO os k2 = some (k, a, d, v)) (t1 t2 v1 : Int) : k = k2 ∧ ((a = t1 ∧ d = t2 ∧ v = v1 ∧ sameB os k2 t1 t2 v1 = true) ∨
    (((a == t1) = false ∨ ((a == t1) = true ∧ (d == t2) = false) ∨ ((a == t1) = true ∧ (d == t2) = true ∧ (v == v1) = false)) ∧ sameB os k2 t1 t2 v1 = false)) := by
  refine ⟨getO_is hg, ?_⟩
  rw [same_some hg]
  by_cases h1 : a = t1
  · by_cases h2 : d = t2
    · by_cases h3 : v = v1
      · exact .inl ⟨h1, h2, h3, by simp [h1, h2, h3]⟩
      · exact .inr ⟨.inr (.inr ⟨by simpa using h1, by simpa using h2, by simpa using h3⟩), by simp [h3]⟩
    · exact .inr ⟨.inr (.inl ⟨by simpa using h1, by simpa using h2⟩), by simp [h2]⟩
  · exact .inr ⟨.inl (by simpa using h1), by simp [h1]⟩

set_option maxHeartbeats 4000000 in
theorem specSame_is (hN : N = #[.int .i64 k1, .int .i64 k2, .int .i64 k3, .int .i64 k4, .int .i64 k5, .int .i64 t1, .int .i64 t2, .int .i64 v1, .int .i64 o1, .int .i64 o2, .int .i64 v2, .slice P p pc, .slice Q q qc, .int .i64 l1, .int .i64 l2, .int .i64 v3]) (hy : y ≤ 2000000) (h : Quads w w.heap.size Y y os) {b : Bool} (hb : sameB os k2 t1 t2 v1 = b) :
    Calls Try.prog 6 #[.agg #[.int .i64 rt, .int .i64 rq, .int .i64 rv, .slice X x xc, .slice Y y yc], .agg N] w fun e w' => e = .returned (.bool b) ∧ Below w.heap.size w w' := by
  have K0 := SO.start w N rt rq rv X x xc yc h
  obtain ⟨n0, n1, n2, n3, n4, n5, n6, n7, n8, n9, n10, n11, n12, n13, n14, n15⟩ := cellsN hN
  have cN := K0.nb.cell
  obtain ⟨r0, r1, r2, r3, r4⟩ := K0.rb.five
  clear hN h n0 n2 n3 n4 n8 n9 n10 n11 n12 n13 n14 n15
  subst hb
  rcases hg : getO os k2 with _ | ⟨k, a, d, v⟩
  · have HV := Lib.hid (same_none hg t1 t2 v1)
    have HG := Lib.hid hg
    clear hg
    go_enter Try.func6, Try.ntmps6
    go_wp2_with fail
    generalize ((w.alloc _).alloc _ : World) = w0 at K0 cN r0 r1 r2 r3 r4 ⊢
    refine (specOpenOf_is rt rq rv X x xc Y y yc os k2 w0 (by omega) K0.ops).mono ?_
    rw [HG.out]
    rintro e w1 ⟨rfl, hb⟩
    have E := bel_trans (bel_trans K0.bel hb) (bel_alloc w1 (.cells #[.int .i64 0, .int .i64 0, .int .i64 0, .int .i64 0] 48))
    clear K0 cN r0 r1 r2 r3 r4
    unfold opV
    go_wp2
    go_ret
    exact ⟨by rw [HV.out]; rfl, E⟩
  · obtain ⟨rfl, hcase⟩ := same_cases hg t1 t2 v1
    have HG := Lib.hid hg
    clear hg
    rcases hcase with ⟨rfl, rfl, rfl, HV⟩ | ⟨hne | ⟨h1, hne⟩ | ⟨h1, h2, hne⟩, HV⟩ <;> replace HV := Lib.hid HV
    all_goals
      go_enter Try.func6, Try.ntmps6
      go_wp2_with fail
      generalize ((w.alloc _).alloc _ : World) = w0 at K0 cN r0 r1 r2 r3 r4 ⊢
      refine (specOpenOf_is rt rq rv X x xc Y y yc os k w0 (by omega) K0.ops).mono ?_
      rw [HG.out]
      rintro e w1 ⟨rfl, hb⟩
      have K1 := K0.later hb
      have E := K1.bel
      clear K0 cN r0 r1 r2 r3 r4 hb
      have cN := K1.nb.cell
      have hl := K1.nb.lt
      clear K1
      unfold opV
      go_wp2
      go_ret
      exact ⟨by rw [HV.out]; rfl, bel_trans E (bel_alloc _ _)⟩

end
end Go.Proofs.Ytdkmbcmenomecaa
