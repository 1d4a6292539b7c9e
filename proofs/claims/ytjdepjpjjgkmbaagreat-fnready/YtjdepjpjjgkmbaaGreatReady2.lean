/- What the last two objections answer, and whether an open one is closed: contracts of each of them; conditions: the sizes. -/
import Derived.Test.YtjdepjpjjgkmbaaGreatReady1
import Derived.Test.YtjdepjpjjgkmbaaGreatProven
namespace Go.Proofs.YtjdepjpjjgkmbaaGreat
open Go.RowKit

section
variable {s l c sh : Int} {A : Option Addr} {n cap : Nat} {zs : List Int} {rt rq rv : Int} {X : Option Addr} {x xc : Nat} {ps : List (Int × Int)} {Y : Option Addr} {y yc : Nat} {os : List Opn} {N : Array Value} {k1 k2 k3 k4 k5 t1 t2 v1 o1 o2 v2 : Int} {P : Option Addr} {p pc : Nat} {Q : Option Addr} {q qc : Nat} {l1 l2 v3 : Int} {cs ms : List (Int × Int)} {w : World}

set_option maxHeartbeats 2000000 in
theorem ob5_is (hN : N = #[.int .i64 k1, .int .i64 k2, .int .i64 k3, .int .i64 k4, .int .i64 k5, .int .i64 t1, .int .i64 t2, .int .i64 v1, .int .i64 o1, .int .i64 o2, .int .i64 v2, .slice P p pc, .slice Q q qc, .int .i64 l1, .int .i64 l2, .int .i64 v3]) (I : In8 w A n zs X x xc ps Y y yc os P p cs Q q ms) {b : Bool} (h : obB s l c sh zs rt rq rv ps os k1 k2 k3 k4 k5 t1 t2 v1 o1 o2 v2 l1 l2 v3 cs ms 5 = b) :
    Calls Tryz.prog 171 #[.agg #[.int .i64 s, .int .i64 l, .int .i64 c, .int .i64 sh, .slice A n cap], .agg #[.int .i64 rt, .int .i64 rq, .int .i64 rv, .slice X x xc, .slice Y y yc], .agg N] w fun e w' => e = .returned (.bool b) ∧ Below w.heap.size w w' := by
  have K0 := K8.start w N s l c sh cap rt rq rv I
  obtain ⟨n0, n1, n2, n3, n4, n5, n6, n7, n8, n9, n10, n11, n12, n13, n14, n15⟩ := cellsN hN
  have cN := K0.nb.cell
  obtain ⟨r0, r1, r2, r3, r4⟩ := K0.rb.five
  clear hN I n0 n2 n3 n4 n8 n9 n10 n11 n12 n13 n14 n15
  subst h
  rcases hg : getO os k2 with _ | ⟨k, a, d, v⟩
  · have HV := Lib.hid (show obB s l c sh zs rt rq rv ps os k1 k2 k3 k4 k5 t1 t2 v1 o1 o2 v2 l1 l2 v3 cs ms 5 = false from opnF_none hg _)
    have HG := Lib.hid hg
    clear hg
    go_enter Tryz.func171, Tryz.ntmps171
    go_wp2_with fail
    generalize (((w.alloc _).alloc _).alloc _ : World) = w0 at K0 cN r0 r1 r2 r3 r4 ⊢
    refine (openOf_is rt rq rv X x xc Y y yc os k2 w0 (by have := K0.inp.hy; omega) K0.inp.ops).mono ?_
    rw [HG.out]
    rintro e w1 ⟨rfl, hb⟩
    have E := bel_trans (bel_trans K0.bel hb) (bel_alloc w1 (.cells #[.int .i64 0, .int .i64 0, .int .i64 0, .int .i64 0] 97))
    clear K0 cN r0 r1 r2 r3 r4
    unfold opV
    go_wp2
    go_ret
    exact ⟨by rw [HV.out]; rfl, E⟩
  · have hcase : (a = t1 ∧ d = t2 ∧ v = v1 ∧ obB s l c sh zs rt rq rv ps os k1 k2 k3 k4 k5 t1 t2 v1 o1 o2 v2 l1 l2 v3 cs ms 5 = false) ∨ (a = t1 ∧ d = t2 ∧ (v != v1) = true ∧ obB s l c sh zs rt rq rv ps os k1 k2 k3 k4 k5 t1 t2 v1 o1 o2 v2 l1 l2 v3 cs ms 5 = true) ∨ (((a == t1) = false ∨ ((a == t1) = true ∧ (d == t2) = false)) ∧ obB s l c sh zs rt rq rv ps os k1 k2 k3 k4 k5 t1 t2 v1 o1 o2 v2 l1 l2 v3 cs ms 5 = false) := by
      have e : obB s l c sh zs rt rq rv ps os k1 k2 k3 k4 k5 t1 t2 v1 o1 o2 v2 l1 l2 v3 cs ms 5 = (decide (a = t1 ∧ d = t2) && !decide (v = v1)) := opnF_some hg _
      rw [e]
      by_cases h1 : a = t1
      · by_cases h2 : d = t2
        · by_cases h3 : v = v1
          · exact .inl ⟨h1, h2, h3, by simp [h3]⟩
          · exact .inr (.inl ⟨h1, h2, by simpa using h3, by simp [h1, h2, h3]⟩)
        · exact .inr (.inr ⟨.inr ⟨by simpa using h1, by simpa using h2⟩, by simp [h2]⟩)
      · exact .inr (.inr ⟨.inl (by simpa using h1), by simp [h1]⟩)
    have HG := Lib.hid hg
    clear hg
    rcases hcase with ⟨rfl, rfl, rfl, HV⟩ | ⟨rfl, rfl, hne, HV⟩ | ⟨hne | ⟨h1, hne⟩, HV⟩ <;> replace HV := Lib.hid HV
    all_goals
      go_enter Tryz.func171, Tryz.ntmps171
      go_wp2_with fail
      generalize (((w.alloc _).alloc _).alloc _ : World) = w0 at K0 cN r0 r1 r2 r3 r4 ⊢
      refine (openOf_is rt rq rv X x xc Y y yc os k2 w0 (by have := K0.inp.hy; omega) K0.inp.ops).mono ?_
      rw [HG.out]
      rintro e w1 ⟨rfl, hb⟩
      have K1 := K0.later hb
      have E := bel_trans K1.bel (bel_alloc w1 (.cells #[.int .i64 k, .int .i64 a, .int .i64 d, .int .i64 v] 97))
      clear K0 cN r0 r1 r2 r3 r4 hb
      have cN := K1.nb.cell
      have hl := K1.nb.lt
      clear K1
      unfold opV
      go_wp2
      go_ret
      exact ⟨by rw [HV.out]; rfl, E⟩

set_option maxHeartbeats 2000000 in
theorem closed_is (hN : N = #[.int .i64 k1, .int .i64 k2, .int .i64 k3, .int .i64 k4, .int .i64 k5, .int .i64 t1, .int .i64 t2, .int .i64 v1, .int .i64 o1, .int .i64 o2, .int .i64 v2, .slice P p pc, .slice Q q qc, .int .i64 l1, .int .i64 l2, .int .i64 v3]) (k a d v : Int) (hn : n ≤ maxLen) (hr : Row w w.heap.size A n zs) (hq : q ≤ 2000000) (hm : Pairs w w.heap.size Q q ms) {b : Bool} (h : clsB s l c sh zs k5 l1 l2 v3 ms (k, a, d, v) = b) :
    Calls Tryz.prog 211 #[.agg #[.int .i64 s, .int .i64 l, .int .i64 c, .int .i64 sh, .slice A n cap], .agg #[.int .i64 k, .int .i64 a, .int .i64 d, .int .i64 v], .agg N] w fun e w' => e = .returned (.bool b) ∧ Below w.heap.size w w' := by
  have G0 := ((Box.new w 26 #[.int .i64 s, .int .i64 l, .int .i64 c, .int .i64 sh, .slice A n cap]).alloc (.cells #[.int .i64 k, .int .i64 a, .int .i64 d, .int .i64 v] 97)).alloc (.cells N 85)
  have D0 := (Box.new (w.alloc (.cells #[.int .i64 s, .int .i64 l, .int .i64 c, .int .i64 sh, .slice A n cap] 26)) 97 #[.int .i64 k, .int .i64 a, .int .i64 d, .int .i64 v]).alloc (.cells N 85)
  have N0 := Box.new ((w.alloc (.cells #[.int .i64 s, .int .i64 l, .int .i64 c, .int .i64 sh, .slice A n cap] 26)).alloc (.cells #[.int .i64 k, .int .i64 a, .int .i64 d, .int .i64 v] 97)) 85 N
  have E0 := bel_trans (bel_trans (bel_alloc w (.cells #[.int .i64 s, .int .i64 l, .int .i64 c, .int .i64 sh, .slice A n cap] 26)) (bel_alloc _ (.cells #[.int .i64 k, .int .i64 a, .int .i64 d, .int .i64 v] 97))) (bel_alloc _ (.cells N 85))
  simp only [World.size_alloc] at D0 N0
  obtain ⟨n0, n1, n2, n3, n4, n5, n6, n7, n8, n9, n10, n11, n12, n13, n14, n15⟩ := cellsN hN
  have cN := N0.cell
  have hNl := N0.lt
  obtain ⟨d0, d1, d2, d3⟩ := D0.four
  have HN := Lib.hid hn
  have HR := Lib.hid hr
  have HQ := Lib.hid hm
  clear hN hn hr hm n0 n1 n2 n3 n5 n6 n7 n8 n9 n10 n11
  subst h
  obtain ⟨z, hz⟩ : ∃ z, clsB s l c sh zs k5 l1 l2 v3 ms (k, a, d, v) = z := ⟨_, rfl⟩
  rw [hz]
  by_cases hk : l2 = k
  · have hk' : (l2 == k) = true := by simpa using hk
    have hk'' : (k == k) = true := by simp
    rcases hc : cmpN a d l1 l2 == 1 with _ | _
    · obtain ⟨y, hy⟩ : ∃ y, cerB s l c sh zs 2 k5 l1 l2 v3 ms = y := ⟨_, rfl⟩
      have HV := Lib.hid (show z = y by rw [← hz, ← hy]; show (decide (l2 = k) && !(cmpN a d l1 l2 == 1) && cerB s l c sh zs 2 k5 l1 l2 v3 ms) = _; rw [hc, decide_eq_true hk]; rfl)
      have HC := Lib.hid hc
      have HY := Lib.hid hy
      clear hc hy hz hk
      go_enter Tryz.func211, Tryz.ntmps211
      have W0 := Box.new (((w.alloc (.cells #[.int .i64 s, .int .i64 l, .int .i64 c, .int .i64 sh, .slice A n cap] 26)).alloc (.cells #[.int .i64 k, .int .i64 a, .int .i64 d, .int .i64 v] 97)).alloc (.cells N 85)) 180 #[.int .i64 2, .int .i64 k5, .int .i64 l1, .int .i64 l2, .int .i64 v3]
      have bW := bel_alloc (((w.alloc (.cells #[.int .i64 s, .int .i64 l, .int .i64 c, .int .i64 sh, .slice A n cap] 26)).alloc (.cells #[.int .i64 k, .int .i64 a, .int .i64 d, .int .i64 v] 97)).alloc (.cells N 85)) (.cells #[.int .i64 2, .int .i64 k5, .int .i64 l1, .int .i64 l2, .int .i64 v3] 180)
      simp only [World.size_alloc] at W0
      go_wp2_with fail
      generalize (((w.alloc _).alloc _).alloc _ : World) = w0 at G0 D0 N0 E0 W0 bW cN hNl d0 d1 d2 d3 ⊢
      replace E0 := bel_trans E0 bW
      replace G0 := G0.later bW G0.lt
      replace N0 := N0.later bW N0.lt
      generalize (w0.alloc _ : World) = w1 at G0 N0 E0 W0 ⊢
      refine (newerB_is HC.out w1).mono ?_
      rintro e w2 ⟨rfl, hb⟩
      replace E0 := bel_trans E0 hb
      replace G0 := G0.later hb G0.lt
      replace N0 := N0.later hb N0.lt
      replace W0 := W0.later hb W0.lt
      clear cN hNl d0 d1 d2 d3 D0 hb bW
      have cN := N0.cell
      obtain ⟨g0, g1, g2, g3, g4⟩ := G0.five
      obtain ⟨c0, c1, c2, c3, c4⟩ := W0.five
      go_wp2_with fail
      refine (certB_is HY.out A n cap Q q qc w2 HN.out ((HR.out.below E0 (Nat.le_refl _)).more E0.size) (by omega) (HQ.out.later E0)).mono ?_
      rintro e w3 ⟨rfl, hb⟩
      have E := bel_trans E0 hb
      clear cN g0 g1 g2 g3 g4 c0 c1 c2 c3 c4 G0 N0 W0 E0 hb
      go_wp2
      go_ret
      exact ⟨by rw [HV.out]; rfl, E⟩
    · have HV := Lib.hid (show z = false by rw [← hz]; simp [clsB, hc])
      have HC := Lib.hid hc
      clear hc hz hk
      go_enter Tryz.func211, Tryz.ntmps211
      have bW := bel_alloc (((w.alloc (.cells #[.int .i64 s, .int .i64 l, .int .i64 c, .int .i64 sh, .slice A n cap] 26)).alloc (.cells #[.int .i64 k, .int .i64 a, .int .i64 d, .int .i64 v] 97)).alloc (.cells N 85)) (.cells #[.int .i64 2, .int .i64 k5, .int .i64 l1, .int .i64 l2, .int .i64 v3] 180)
      go_wp2_with fail
      generalize (((w.alloc _).alloc _).alloc _ : World) = w0 at G0 D0 N0 E0 bW cN hNl d0 d1 d2 d3 ⊢
      replace E0 := bel_trans E0 bW
      generalize (w0.alloc _ : World) = w1 at E0 ⊢
      refine (newerB_is HC.out w1).mono ?_
      rintro e w2 ⟨rfl, hb⟩
      replace E0 := bel_trans E0 hb
      clear cN hNl d0 d1 d2 d3 D0 hb bW G0 N0
      go_wp2
      go_ret
      exact ⟨by rw [HV.out]; rfl, E0⟩
  · have HV := Lib.hid (show z = false by rw [← hz]; simp [clsB, hk])
    have hk' : (l2 == k) = false := by simpa using hk
    clear hz hk
    go_enter Tryz.func211, Tryz.ntmps211
    have E1 := bel_trans E0 (bel_alloc _ (.cells #[.int .i64 2, .int .i64 k5, .int .i64 l1, .int .i64 l2, .int .i64 v3] 180))
    clear G0 D0 N0 E0
    go_wp2
    go_ret
    exact ⟨by rw [HV.out]; rfl, E1⟩

set_option maxHeartbeats 2000000 in
theorem ob6_is (hN : N = #[.int .i64 k1, .int .i64 k2, .int .i64 k3, .int .i64 k4, .int .i64 k5, .int .i64 t1, .int .i64 t2, .int .i64 v1, .int .i64 o1, .int .i64 o2, .int .i64 v2, .slice P p pc, .slice Q q qc, .int .i64 l1, .int .i64 l2, .int .i64 v3]) (I : In8 w A n zs X x xc ps Y y yc os P p cs Q q ms) {b : Bool} (h : obB s l c sh zs rt rq rv ps os k1 k2 k3 k4 k5 t1 t2 v1 o1 o2 v2 l1 l2 v3 cs ms 6 = b) :
    Calls Tryz.prog 172 #[.agg #[.int .i64 s, .int .i64 l, .int .i64 c, .int .i64 sh, .slice A n cap], .agg #[.int .i64 rt, .int .i64 rq, .int .i64 rv, .slice X x xc, .slice Y y yc], .agg N] w fun e w' => e = .returned (.bool b) ∧ Below w.heap.size w w' := by
  have K0 := K8.start w N s l c sh cap rt rq rv I
  have HZ := Lib.hid (sizeN hN)
  obtain ⟨n0, n1, n2, n3, n4, n5, n6, n7, n8, n9, n10, n11, n12, n13, n14, n15⟩ := cellsN hN
  have HN := Lib.hid hN
  have cN := K0.nb.cell
  obtain ⟨r0, r1, r2, r3, r4⟩ := K0.rb.five
  clear hN I n0 n2 n3 n4 n7 n8 n9 n10 n11 n12 n13 n14 n15
  subst h
  rcases hg : getO os k2 with _ | ⟨k, a, d, v⟩
  · have HV := Lib.hid (show obB s l c sh zs rt rq rv ps os k1 k2 k3 k4 k5 t1 t2 v1 o1 o2 v2 l1 l2 v3 cs ms 6 = false from opnF_none hg _)
    have HG := Lib.hid hg
    clear hg
    go_enter Tryz.func172, Tryz.ntmps172
    go_wp2_with fail
    generalize (((w.alloc _).alloc _).alloc _ : World) = w0 at K0 cN r0 r1 r2 r3 r4 ⊢
    refine (openOf_is rt rq rv X x xc Y y yc os k2 w0 (by have := K0.inp.hy; omega) K0.inp.ops).mono ?_
    rw [HG.out]
    rintro e w1 ⟨rfl, hb⟩
    have E := bel_trans (bel_trans K0.bel hb) (bel_alloc w1 (.cells #[.int .i64 0, .int .i64 0, .int .i64 0, .int .i64 0] 97))
    clear K0 cN r0 r1 r2 r3 r4
    unfold opV
    go_wp2
    go_ret
    exact ⟨by rw [HV.out]; rfl, E⟩
  · have hv : obB s l c sh zs rt rq rv ps os k1 k2 k3 k4 k5 t1 t2 v1 o1 o2 v2 l1 l2 v3 cs ms 6 = ((cmpN t1 t2 a d == 1) && !clsB s l c sh zs k5 l1 l2 v3 ms (k, a, d, v)) := opnF_some hg _
    have HG := Lib.hid hg
    clear hg
    rcases hc : cmpN t1 t2 a d == 1 with _ | _
    · have HV := Lib.hid (show obB s l c sh zs rt rq rv ps os k1 k2 k3 k4 k5 t1 t2 v1 o1 o2 v2 l1 l2 v3 cs ms 6 = false by rw [hv, hc]; rfl)
      have HC := Lib.hid hc
      clear hc hv
      go_enter Tryz.func172, Tryz.ntmps172
      go_wp2_with fail
      generalize (((w.alloc _).alloc _).alloc _ : World) = w0 at K0 cN r0 r1 r2 r3 r4 ⊢
      refine (openOf_is rt rq rv X x xc Y y yc os k2 w0 (by have := K0.inp.hy; omega) K0.inp.ops).mono ?_
      rw [HG.out]
      rintro e w1 ⟨rfl, hb⟩
      have K1 := (K0.later hb).later (bel_alloc w1 (.cells #[.int .i64 k, .int .i64 a, .int .i64 d, .int .i64 v] 97))
      clear K0 cN r0 r1 r2 r3 r4 hb
      have cN := K1.nb.cell
      unfold opV
      go_wp2_with fail
      generalize (w1.alloc _ : World) = w2 at K1 cN ⊢
      refine (newerB_is HC.out w2).mono ?_
      rintro e w3 ⟨rfl, hb⟩
      have E := bel_trans K1.bel hb
      clear K1 cN
      go_wp2
      go_ret
      exact ⟨by rw [HV.out]; rfl, E⟩
    · obtain ⟨r, hr⟩ : ∃ r, clsB s l c sh zs k5 l1 l2 v3 ms (k, a, d, v) = r := ⟨_, rfl⟩
      have HV := Lib.hid (show obB s l c sh zs rt rq rv ps os k1 k2 k3 k4 k5 t1 t2 v1 o1 o2 v2 l1 l2 v3 cs ms 6 = !r by rw [hv, hc, hr]; rfl)
      have HC := Lib.hid hc
      have HR := Lib.hid hr
      clear hc hv hr
      go_enter Tryz.func172, Tryz.ntmps172
      go_wp2_with fail
      generalize (((w.alloc _).alloc _).alloc _ : World) = w0 at K0 cN r0 r1 r2 r3 r4 ⊢
      refine (openOf_is rt rq rv X x xc Y y yc os k2 w0 (by have := K0.inp.hy; omega) K0.inp.ops).mono ?_
      rw [HG.out]
      rintro e w1 ⟨rfl, hb⟩
      have D1 := Box.new w1 97 #[.int .i64 k, .int .i64 a, .int .i64 d, .int .i64 v]
      have K1 := (K0.later hb).later (bel_alloc w1 (.cells #[.int .i64 k, .int .i64 a, .int .i64 d, .int .i64 v] 97))
      clear K0 cN r0 r1 r2 r3 r4 hb
      have cN := K1.nb.cell
      unfold opV
      go_wp2_with fail
      generalize (w1.alloc _ : World) = w2 at K1 D1 cN ⊢
      refine (newerB_is HC.out w2).mono ?_
      rintro e w3 ⟨rfl, hb⟩
      replace K1 := K1.later hb
      replace D1 := D1.later hb D1.lt
      clear cN hb
      have cN := K1.nb.cell
      obtain ⟨g0, g1, g2, g3, g4⟩ := K1.gb.five
      obtain ⟨d0, d1, d2, d3⟩ := D1.four
      go_wp2_with (refine wpList_load_box 85 _ rfl (w.heap.size + 1 + 1) rfl 85 N K1.nb _ Tryz.underlying85 rfl HZ.out (by first | simp [Region.wanted, yielded] | (simp [Region.wanted, yielded, Act.put] <;> omega)) ?_)
      refine (closed_is HN.out k a d v K1.inp.hn K1.inp.row K1.inp.hq K1.inp.mrs HR.out).mono ?_
      rintro e w4 ⟨rfl, hb⟩
      have E := bel_trans K1.bel hb
      clear K1 D1 cN g0 g1 g2 g3 g4 d0 d1 d2 d3
      go_wp2
      go_ret
      exact ⟨by rw [HV.out]; rfl, E⟩

end
end Go.Proofs.YtjdepjpjjgkmbaaGreat
