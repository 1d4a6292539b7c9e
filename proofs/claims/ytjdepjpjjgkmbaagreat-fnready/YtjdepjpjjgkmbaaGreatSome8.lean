/- Whether a shelf is right for some shelf of the group, as the program and the model ask it; what Readied answers; conditions: the sizes. -/
import Derived.Test.YtjdepjpjjgkmbaaGreatCode8
namespace Go.Proofs.YtjdepjpjjgkmbaaGreat
open Go Go.RowKit

/-- Is it a right one for some shelf? -/
def someB (s l c sh : Int) (zs : List Int) (rt rq rv : Int) (ps : List (Int × Int)) (os : List Opn) : Bool := (List.range 4).any fun i => regB s l c sh zs (i : Int) rt rq rv ps os
/-- What Readied answers. -/
def readN (s l c sh : Int) (zs : List Int) (rt rq rv : Int) (ps : List (Int × Int)) (os : List Opn) (k1 k2 k3 k4 k5 t1 t2 v1 o1 o2 v2 l1 l2 v3 : Int) (cs ms : List (Int × Int)) : RegD × Int :=
  if someB s l c sh zs rt rq rv ps os = false then (⟨0, 0, 0, [], []⟩, 1)
  else if codeN s l c sh zs rt rq rv ps os k1 k2 k3 k4 k5 t1 t2 v1 o1 o2 v2 l1 l2 v3 cs ms = 0 then (⟨rt, rq, rv, ps, withO os (k2, t1, t2, v1)⟩, 0)
  else (⟨rt, rq, rv, ps, os⟩, codeN s l c sh zs rt rq rv ps os k1 k2 k3 k4 k5 t1 t2 v1 o1 o2 v2 l1 l2 v3 cs ms)

section
variable {s l c sh : Int} {A : Option Addr} {n cap : Nat} {zs : List Int} {rt rq rv : Int} {X : Option Addr} {x xc : Nat} {ps : List (Int × Int)} {Y : Option Addr} {y yc : Nat} {os : List Opn} {N : Array Value} {k1 k2 k3 k4 k5 t1 t2 v1 o1 o2 v2 : Int} {P : Option Addr} {p pc : Nat} {Q : Option Addr} {q qc : Nat} {l1 l2 v3 : Int} {cs ms : List (Int × Int)} {w : World}
theorem some_true {k : Nat} (hk : k < 4) (h : regB s l c sh zs (k : Int) rt rq rv ps os = true) : someB s l c sh zs rt rq rv ps os = true := by
  unfold someB
  rw [List.any_eq_true]
  exact ⟨k, List.mem_range.2 hk, h⟩
theorem some_false (h : ∀ j : Nat, j < 4 → regB s l c sh zs (j : Int) rt rq rv ps os = false) : someB s l c sh zs rt rq rv ps os = false := by
  unfold someB
  rw [List.any_eq_false]
  intro j hj
  rw [h j (List.mem_range.1 hj)]
  simp
theorem reg_shelf {z : Int} (h : regB s l c sh zs z rt rq rv ps os = true) : 0 ≤ z ∧ z ≤ sh - 1 ∧ z ≤ 3 := by
  unfold regB lefB at h
  rw [Bool.and_eq_true, Bool.and_eq_true, proB_eq, Bool.and_eq_true] at h
  have hs := h.1.1.1
  unfold shfB at hs
  rw [Bool.and_eq_true] at hs
  have h1 := okB_sh hs.1
  have h2 := inB_true.1 hs.2
  omega
theorem some_of_reg {z : Int} (h : regB s l c sh zs z rt rq rv ps os = true) : someB s l c sh zs rt rq rv ps os = true := by
  obtain ⟨h0, -, h3⟩ := reg_shelf h
  obtain ⟨k, rfl⟩ := Int.eq_ofNat_of_zero_le h0
  exact some_true (by omega) h
theorem code_not_some (h : someB s l c sh zs rt rq rv ps os = false) : codeN s l c sh zs rt rq rv ps os k1 k2 k3 k4 k5 t1 t2 v1 o1 o2 v2 l1 l2 v3 cs ms = 1 := by
  rcases h0 : obB s l c sh zs rt rq rv ps os k1 k2 k3 k4 k5 t1 t2 v1 o1 o2 v2 l1 l2 v3 cs ms 0 with _ | _
  · rcases h1 : obB s l c sh zs rt rq rv ps os k1 k2 k3 k4 k5 t1 t2 v1 o1 o2 v2 l1 l2 v3 cs ms 1 with _ | _
    · exact absurd (some_of_reg (ob_1 h1)) (by rw [h]; simp)
    · exact code_1 h0 h1
  · exact code_0 h0
theorem read_no (h : someB s l c sh zs rt rq rv ps os = false) : readN s l c sh zs rt rq rv ps os k1 k2 k3 k4 k5 t1 t2 v1 o1 o2 v2 l1 l2 v3 cs ms = (⟨0, 0, 0, [], []⟩, 1) := by unfold readN; rw [if_pos h]
theorem read_0 (h : someB s l c sh zs rt rq rv ps os = true) (hc : codeN s l c sh zs rt rq rv ps os k1 k2 k3 k4 k5 t1 t2 v1 o1 o2 v2 l1 l2 v3 cs ms = 0) : readN s l c sh zs rt rq rv ps os k1 k2 k3 k4 k5 t1 t2 v1 o1 o2 v2 l1 l2 v3 cs ms = (⟨rt, rq, rv, ps, withO os (k2, t1, t2, v1)⟩, 0) := by unfold readN; rw [if_neg (by rw [h]; simp), if_pos hc]
theorem read_z {z : Int} (h : someB s l c sh zs rt rq rv ps os = true) (hc : codeN s l c sh zs rt rq rv ps os k1 k2 k3 k4 k5 t1 t2 v1 o1 o2 v2 l1 l2 v3 cs ms = z) (hz : z ≠ 0) : readN s l c sh zs rt rq rv ps os k1 k2 k3 k4 k5 t1 t2 v1 o1 o2 v2 l1 l2 v3 cs ms = (⟨rt, rq, rv, ps, os⟩, z) := by unfold readN; rw [if_neg (by rw [h]; simp), if_neg (by rw [hc]; exact hz), hc]
end

/-- What a walk over a group and a shelf keeps. -/
structure KS (w wr : World) (s l c sh : Int) (A : Option Addr) (n cap : Nat) (zs : List Int) (rt rq rv : Int) (X : Option Addr) (x xc : Nat) (ps : List (Int × Int)) (Y : Option Addr) (y yc : Nat) (os : List Opn) : Prop where
  gb : Box wr w.heap.size 26 #[.int .i64 s, .int .i64 l, .int .i64 c, .int .i64 sh, .slice A n cap]
  rb : Box wr (w.heap.size + 1) 80 #[.int .i64 rt, .int .i64 rq, .int .i64 rv, .slice X x xc, .slice Y y yc]
  row : Row wr wr.heap.size A n zs
  prs : Pairs wr wr.heap.size X x ps
  ops : Quads wr wr.heap.size Y y os
  bel : Below w.heap.size w wr
section
variable {s l c sh : Int} {A : Option Addr} {n cap : Nat} {zs : List Int} {rt rq rv : Int} {X : Option Addr} {x xc : Nat} {ps : List (Int × Int)} {Y : Option Addr} {y yc : Nat} {os : List Opn} {N : Array Value} {k1 k2 k3 k4 k5 t1 t2 v1 o1 o2 v2 : Int} {P : Option Addr} {p pc : Nat} {Q : Option Addr} {q qc : Nat} {l1 l2 v3 : Int} {cs ms : List (Int × Int)} {w : World}
theorem KS.later {wr w' : World} (h : KS w wr s l c sh A n cap zs rt rq rv X x xc ps Y y yc os) (hb : Below wr.heap.size wr w') : KS w w' s l c sh A n cap zs rt rq rv X x xc ps Y y yc os :=
  ⟨h.gb.later hb h.gb.lt, h.rb.later hb h.rb.lt, (h.row.below hb (Nat.le_refl _)).more hb.size, h.prs.later hb, h.ops.later hb, bel_trans h.bel hb⟩
theorem KS.start (w : World) (s l c sh : Int) (cap : Nat) (rt rq rv : Int) (xc yc : Nat) (h1 : Row w w.heap.size A n zs) (h2 : Pairs w w.heap.size X x ps) (h3 : Quads w w.heap.size Y y os) :
    KS w ((w.alloc (.cells #[.int .i64 s, .int .i64 l, .int .i64 c, .int .i64 sh, .slice A n cap] 26)).alloc (.cells #[.int .i64 rt, .int .i64 rq, .int .i64 rv, .slice X x xc, .slice Y y yc] 80)) s l c sh A n cap zs rt rq rv X x xc ps Y y yc os := by
  have E := bel_trans (bel_alloc w (.cells #[.int .i64 s, .int .i64 l, .int .i64 c, .int .i64 sh, .slice A n cap] 26)) (bel_alloc _ (.cells #[.int .i64 rt, .int .i64 rq, .int .i64 rv, .slice X x xc, .slice Y y yc] 80))
  have D := Box.new (w.alloc (.cells #[.int .i64 s, .int .i64 l, .int .i64 c, .int .i64 sh, .slice A n cap] 26)) 80 #[.int .i64 rt, .int .i64 rq, .int .i64 rv, .slice X x xc, .slice Y y yc]
  simp only [World.size_alloc] at D
  exact ⟨(Box.new w _ _).alloc _, D, (h1.below E (Nat.le_refl _)).more E.size, h2.later E, h3.later E, E⟩

set_option maxHeartbeats 2000000 in
theorem some_is (hn : n ≤ maxLen) (hx : x ≤ 4194304) (hy : y ≤ 4194304) (h1 : Row w w.heap.size A n zs) (h2 : Pairs w w.heap.size X x ps) (h3 : Quads w w.heap.size Y y os) {b : Bool} (hb : someB s l c sh zs rt rq rv ps os = b) :
    Calls Tryz.prog 100 #[.agg #[.int .i64 s, .int .i64 l, .int .i64 c, .int .i64 sh, .slice A n cap], .agg #[.int .i64 rt, .int .i64 rq, .int .i64 rv, .slice X x xc, .slice Y y yc]] w fun e w' => e = .returned (.bool b) ∧ Below w.heap.size w w' := by
  have K0 := KS.start w s l c sh cap rt rq rv xc yc h1 h2 h3
  have HB := Lib.hid hb
  have HN := Lib.hid hn
  clear h1 h2 h3 hb hn
  go_enter Tryz.func100, Tryz.ntmps100
  go_wp2_with fail
  generalize ((w.alloc _).alloc _ : World) = w0 at K0 ⊢
  go_loopw [6] (fun i wr => ∃ k : Nat, k ≤ 4 ∧ i = .int .i64 k ∧ Hid (∀ j : Nat, j < k → regB s l c sh zs (j : Int) rt rq rv ps os = false) ∧ KS w wr s l c sh A n cap zs rt rq rv X x xc ps Y y yc os) (fun i _ => 4 - (intOf i).toNat)
  case atStart => exact ⟨0, by omega, rfl, fun j hj => absurd hj (by omega), K0⟩
  case round =>
    clear K0
    obtain ⟨k, hk, rfl, hall, K⟩ := hrel
    by_cases hlt : k < 4
    · have hlt' : (k : Int) < 4 := by omega
      obtain ⟨g0, g1, g2, g3, g4⟩ := K.gb.five
      obtain ⟨r0, r1, r2, r3, r4⟩ := K.rb.five
      rcases hv : regB s l c sh zs (k : Int) rt rq rv ps os with _ | _
      · have HS : Hid (∀ j : Nat, j < k + 1 → regB s l c sh zs (j : Int) rt rq rv ps os = false) := fun j hj => by
          by_cases e : j = k
          · subst e; exact hv
          · exact hall.out j (by omega)
        have HV := Lib.hid hv
        clear hv
        go_wp2_with fail
        refine (shelfB8_is HV.out A n cap X x xc Y y yc wr HN.out K.row hx hy K.prs K.ops).mono ?_
        rintro e w1 ⟨rfl, hb⟩
        have K1 := K.later hb
        clear K hb g0 g1 g2 g3 g4 r0 r1 r2 r3 r4
        go_wp2
        go_roundw
        case rel => exact ⟨k + 1, by omega, by go_num, HS, K1⟩
        case measure => simp [intOf]; omega
      · have HC : Hid (b = true) := Lib.hid (by rw [← HB.out]; exact some_true hlt hv)
        have HV := Lib.hid hv
        clear hv
        go_wp2_with fail
        refine (shelfB8_is HV.out A n cap X x xc Y y yc wr HN.out K.row hx hy K.prs K.ops).mono ?_
        rintro e w1 ⟨rfl, hb⟩
        have E := bel_trans K.bel hb
        clear K hb g0 g1 g2 g3 g4 r0 r1 r2 r3 r4
        go_wp2
        go_ret
        exact ⟨by rw [HC.out]; rfl, E⟩
    · obtain rfl : k = 4 := by omega
      have HC : Hid (b = false) := Lib.hid (by rw [← HB.out]; exact some_false hall.out)
      have E := K.bel
      clear K
      go_wp2
      go_ret
      exact ⟨by rw [HC.out]; rfl, E⟩

set_option maxHeartbeats 2000000 in
theorem specSome_is (hn : n ≤ maxLen) (hx : x ≤ 4194304) (hy : y ≤ 4194304) (h1 : Row w w.heap.size A n zs) (h2 : Pairs w w.heap.size X x ps) (h3 : Quads w w.heap.size Y y os) {b : Bool} (hb : someB s l c sh zs rt rq rv ps os = b) :
    Calls Tryz.prog 97 #[.agg #[.int .i64 s, .int .i64 l, .int .i64 c, .int .i64 sh, .slice A n cap], .agg #[.int .i64 rt, .int .i64 rq, .int .i64 rv, .slice X x xc, .slice Y y yc]] w fun e w' => e = .returned (.bool b) ∧ Below w.heap.size w w' := by
  have K0 := KS.start w s l c sh cap rt rq rv xc yc h1 h2 h3
  have HB := Lib.hid hb
  have HN := Lib.hid hn
  clear h1 h2 h3 hb hn
  go_enter Tryz.func97, Tryz.ntmps97
  go_wp2_with fail
  generalize ((w.alloc _).alloc _ : World) = w0 at K0 ⊢
  go_loopw [5] (fun i wr => ∃ k : Nat, k ≤ 4 ∧ i = .int .i64 k ∧ Hid (∀ j : Nat, j < k → regB s l c sh zs (j : Int) rt rq rv ps os = false) ∧ KS w wr s l c sh A n cap zs rt rq rv X x xc ps Y y yc os) (fun i _ => 4 - (intOf i).toNat)
  case atStart => exact ⟨0, by omega, rfl, fun j hj => absurd hj (by omega), K0⟩
  case round =>
    clear K0
    obtain ⟨k, hk, rfl, hall, K⟩ := hrel
    obtain ⟨g0, g1, g2, g3, g4⟩ := K.gb.five
    obtain ⟨r0, r1, r2, r3, r4⟩ := K.rb.five
    by_cases hsh : (k : Int) < sh
    · by_cases hlt : k < 4
      · have hlt' : (k : Int) < 4 := by omega
        rcases hv : regB s l c sh zs (k : Int) rt rq rv ps os with _ | _
        · have HS : Hid (∀ j : Nat, j < k + 1 → regB s l c sh zs (j : Int) rt rq rv ps os = false) := fun j hj => by
            by_cases e : j = k
            · subst e; exact hv
            · exact hall.out j (by omega)
          have HV := Lib.hid hv
          clear hv
          go_wp2_with fail
          refine (specShelfB8_is HV.out A n cap X x xc Y y yc wr HN.out K.row hx hy K.prs K.ops).mono ?_
          rintro e w1 ⟨rfl, hb⟩
          have K1 := K.later hb
          clear K hb g0 g1 g2 g3 g4 r0 r1 r2 r3 r4
          go_wp2
          go_roundw
          case rel => exact ⟨k + 1, by omega, by go_num, HS, K1⟩
          case measure => simp [intOf]; omega
        · have HC : Hid (b = true) := Lib.hid (by rw [← HB.out]; exact some_true hlt hv)
          have HV := Lib.hid hv
          clear hv
          go_wp2_with fail
          refine (specShelfB8_is HV.out A n cap X x xc Y y yc wr HN.out K.row hx hy K.prs K.ops).mono ?_
          rintro e w1 ⟨rfl, hb⟩
          have E := bel_trans K.bel hb
          clear K hb g0 g1 g2 g3 g4 r0 r1 r2 r3 r4
          go_wp2
          go_ret
          exact ⟨by rw [HC.out]; rfl, E⟩
      · obtain rfl : k = 4 := by omega
        have HC : Hid (b = false) := Lib.hid (by rw [← HB.out]; exact some_false hall.out)
        have E := K.bel
        clear K
        go_wp2
        go_ret
        exact ⟨by rw [HC.out]; rfl, E⟩
    · have HC : Hid (b = false) := Lib.hid (by
        rw [← HB.out]
        refine some_false fun j hj => ?_
        by_cases e : j < k
        · exact hall.out j e
        · rcases h : regB s l c sh zs (j : Int) rt rq rv ps os with _ | _
          · rfl
          · have := reg_shelf h
            omega)
      have E := K.bel
      clear K
      go_wp2
      go_ret
      exact ⟨by rw [HC.out]; rfl, E⟩
end

end Go.Proofs.YtjdepjpjjgkmbaaGreat
