/- SameOpen of the program: its contract (written by same8.py); conditions: the sizes. -/
import Derived.Test.YtdkmbcmenomecaaSame8
namespace Go.Proofs.Ytdkmbcmenomecaa
open Go Go.RowKit

section
variable {rt rq rv : Int} {X : Option Addr} {x xc : Nat} {Y : Option Addr} {y yc : Nat} {os : List Opn} {N : Array Value} {k1 k2 k3 k4 k5 t1 t2 v1 o1 o2 v2 : Int} {P : Option Addr} {p pc : Nat} {Q : Option Addr} {q qc : Nat} {l1 l2 v3 : Int} {w : World}

set_option maxHeartbeats 4000000 in
theorem sameOpen_is (hN : N = #[.int .i64 k1, .int .i64 k2, .int .i64 k3, .int .i64 k4, .int .i64 k5, .int .i64 t1, .int .i64 t2, .int .i64 v1, .int .i64 o1, .int .i64 o2, .int .i64 v2, .slice P p pc, .slice Q q qc, .int .i64 l1, .int .i64 l2, .int .i64 v3]) (hy : y ≤ 2000000) (h : Quads w w.heap.size Y y os) {b : Bool} (hb : sameB os k2 t1 t2 v1 = b) :
    Calls Try.prog 9 #[.agg #[.int .i64 rt, .int .i64 rq, .int .i64 rv, .slice X x xc, .slice Y y yc], .agg N] w fun e w' => e = .returned (.bool b) ∧ Below w.heap.size w w' := by
  have K0 := SO.start w N rt rq rv X x xc yc h
  have IN := Lib.hid (sizeN hN)
  have IO : Hid ((Try.prog.info? 48).map (·.size) = some 4) := Lib.hid (by kernel_rfl)
  obtain ⟨n0, n1, n2, n3, n4, n5, n6, n7, n8, n9, n10, n11, n12, n13, n14, n15⟩ := cellsN hN
  have HN := Lib.hid hN
  have cN := K0.nb.cell
  obtain ⟨r0, r1, r2, r3, r4⟩ := K0.rb.five
  clear hN h n0 n2 n3 n4 n5 n6 n7 n8 n9 n10 n11 n12 n13 n14 n15
  subst hb
  rcases hg : getO os k2 with _ | ⟨k, a, d, v⟩
  · have HV := Lib.hid (same_none hg t1 t2 v1)
    have HG := Lib.hid hg
    clear hg
    go_enter Try.func9, Try.ntmps9
    go_wp2_with fail
    generalize ((w.alloc _).alloc _ : World) = w0 at K0 cN r0 r1 r2 r3 r4 ⊢
    refine (openOf_is rt rq rv X x xc Y y yc os k2 w0 (by omega) K0.ops).mono ?_
    rw [HG.out]
    rintro e w1 ⟨rfl, hb⟩
    have E := bel_trans (bel_trans K0.bel hb) (bel_alloc w1 (.cells #[.int .i64 0, .int .i64 0, .int .i64 0, .int .i64 0] 48))
    clear K0 cN r0 r1 r2 r3 r4
    unfold opV
    go_upto_region 2 with fail
    refine wp_region_after (by kernel_rfl) (by kernel_rfl) ?_
    repeat (first | go_big_quiet_step (fail) | quiet_step (fail))
    refine wpQuiet_nil ?_
    intro pw
    go_wp2
    go_ret
    exact ⟨by rw [HV.out]; rfl, bel_trans E pw.bel⟩
  · obtain ⟨rfl, hcase⟩ := same_cases hg t1 t2 v1
    have HG := Lib.hid hg
    clear hg
    rcases hcase with ⟨rfl, rfl, rfl, HV⟩ | ⟨hne | ⟨h1, hne⟩ | ⟨h1, h2, hne⟩, HV⟩ <;> replace HV := Lib.hid HV
    · go_enter Try.func9, Try.ntmps9
      go_wp2_with fail
      generalize ((w.alloc _).alloc _ : World) = w0 at K0 cN r0 r1 r2 r3 r4 ⊢
      refine (openOf_is rt rq rv X x xc Y y yc os k w0 (by omega) K0.ops).mono ?_
      rw [HG.out]
      rintro e w1 ⟨rfl, hb⟩
      have D1 := Box.new w1 48 #[.int .i64 k, .int .i64 a, .int .i64 d, .int .i64 v]
      have K1 := (K0.later hb).later (bel_alloc w1 (.cells #[.int .i64 k, .int .i64 a, .int .i64 d, .int .i64 v] 48))
      clear K0 cN r0 r1 r2 r3 r4 hb
      unfold opV
      go_upto_region 2 with fail
      generalize (w1.alloc _ : World) = w2 at K1 D1 ⊢
      generalize w1.heap.size = V at D1 ⊢
      refine wp_region_sink 8 (fun w' => Box w' V 48 #[.int .i64 k, .int .i64 a, .int .i64 d, .int .i64 v] ∧ Box w' (w.heap.size + 1) 40 N) (by kernel_rfl) ⟨D1, K1.nb⟩ (fun hH => ?_)
      replace K1 := K1.later ((Below.refl w2.heap.size w2).drew)
      replace D1 := D1.later ((Below.refl w2.heap.size w2).drew) D1.lt
      generalize w2.drew = w3 at K1 D1 hH ⊢
      refine wpAnyE_pure (i := 0) (v := ?va0) (by simp only [List.getElem?_toArray, List.getElem?_cons_zero]; rfl) (by kernel_rfl) (by kernel_rfl) (by kernel_rfl) (by exact fun _ _ _ h => h) (by kernel_rfl) (Or.inl ⟨by rfl, ?ya0⟩) hH ?ra0
      case ya0 => (intro w' hSw; (try dsimp only at hSw); go_simp; try with_reducible rfl)
      try simp only [Act.put, List.setIfInBounds_toArray, List.set_cons_zero, List.set_cons_succ]
      refine wpAnyE_pure (i := 1) (v := ?vb0) (by simp only [List.getElem?_toArray, List.getElem?_cons_succ, List.getElem?_cons_zero]; rfl) (by kernel_rfl) (by kernel_rfl) (by kernel_rfl) (by exact fun _ _ _ h => h) (by kernel_rfl) (Or.inl ⟨by rfl, ?yb0⟩) hH ?rb0
      case yb0 => (intro w' hSw; (try dsimp only at hSw); go_simp; try with_reducible rfl)
      try simp only [Act.put, List.setIfInBounds_toArray, List.set_cons_zero, List.set_cons_succ]
      refine wpAnyE_takeS (i := 2) (v := .agg #[.int .i64 k, .int .i64 a, .int .i64 d, .int .i64 v]) (by simp only [List.getElem?_toArray, List.getElem?_cons_succ, List.getElem?_cons_zero]; rfl) (by kernel_rfl) (by kernel_rfl) (by kernel_rfl) (by exact fun _ _ _ h => h) (by kernel_rfl) ?yc0 hH ?_
      case yc0 => exact yields_box 48 _ rfl (V) rfl 48 #[.int .i64 k, .int .i64 a, .int .i64 d, .int .i64 v] (fun _ h => h.1) _ Try.underlying48 rfl IO.out (by first | rfl | simp [Region.wanted, yielded] | (simp [Region.wanted, yielded, Act.put] <;> omega))
      try simp only [Act.put, List.setIfInBounds_toArray, List.set_cons_zero, List.set_cons_succ]
      refine wpAnyE_takeS (i := 3) (v := .agg N) (by simp only [List.getElem?_toArray, List.getElem?_cons_succ, List.getElem?_cons_zero]; rfl) (by kernel_rfl) (by kernel_rfl) (by kernel_rfl) (by exact fun _ _ _ h => h) (by kernel_rfl) ?yd0 hH ?_
      case yd0 => exact yields_box 40 _ rfl (w.heap.size + 1) rfl 40 N (fun _ h => h.2) _ Try.underlying40 rfl IN.out (by first | rfl | simp [Region.wanted, yielded] | (simp [Region.wanted, yielded, Act.put] <;> omega))
      try simp only [Act.put, List.setIfInBounds_toArray, List.set_cons_zero, List.set_cons_succ]
      refine wpAnyE_one (i := 4) (by kernel_rfl) (by simp only [List.getElem?_toArray, List.getElem?_cons_succ, List.getElem?_cons_zero]; rfl) (fun K hK => ?_)
      go_simp
      refine (openFor8_is HN.out _).mono ?_
      rintro e w4 ⟨rfl, hb⟩
      replace K1 := K1.later hb
      replace D1 := D1.later hb D1.lt
      clear hb
      clear hH
      refine hK.out _ _ ⟨D1, K1.nb⟩ (fun hH => ?_)
      clear hK K
      try simp only [Act.put, List.setIfInBounds_toArray, List.set_cons_zero, List.set_cons_succ]
      refine wpAnyE_one (i := 5) (by kernel_rfl) (by simp only [List.getElem?_toArray, List.getElem?_cons_succ, List.getElem?_cons_zero]; rfl) (fun K hK => ?_)
      go_simp
      clear hH
      refine hK.out _ _ ⟨D1, K1.nb⟩ (fun hH => ?_)
      clear hK K
      try simp only [Act.put, List.setIfInBounds_toArray, List.set_cons_zero, List.set_cons_succ]
      refine wpAnyE_one (i := 6) (by kernel_rfl) (by simp only [List.getElem?_toArray, List.getElem?_cons_succ, List.getElem?_cons_zero]; rfl) (fun K hK => ?_)
      go_simp
      clear hH
      refine hK.out _ _ ⟨D1, K1.nb⟩ (fun hH => ?_)
      clear hK K
      try simp only [Act.put, List.setIfInBounds_toArray, List.set_cons_zero, List.set_cons_succ]
      refine wpAnyE_end (i := 7) (by kernel_rfl) (by simp only [List.getElem?_toArray, List.getElem?_cons_succ, List.getElem?_cons_zero]; rfl) (by kernel_rfl) (fun K hK => ?_)
      go_simp
      refine hK.out _ _ ⟨D1, K1.nb⟩ ?_
      clear hK K
      try simp only [Act.put, List.setIfInBounds_toArray, List.set_cons_zero, List.set_cons_succ]
      have E := K1.bel
      clear K1 D1 hH
      go_wp2
      go_ret
      exact ⟨by rw [HV.out]; rfl, E⟩
    · go_enter Try.func9, Try.ntmps9
      go_wp2_with fail
      generalize ((w.alloc _).alloc _ : World) = w0 at K0 cN r0 r1 r2 r3 r4 ⊢
      refine (openOf_is rt rq rv X x xc Y y yc os k w0 (by omega) K0.ops).mono ?_
      rw [HG.out]
      rintro e w1 ⟨rfl, hb⟩
      have D1 := Box.new w1 48 #[.int .i64 k, .int .i64 a, .int .i64 d, .int .i64 v]
      have K1 := (K0.later hb).later (bel_alloc w1 (.cells #[.int .i64 k, .int .i64 a, .int .i64 d, .int .i64 v] 48))
      clear K0 cN r0 r1 r2 r3 r4 hb
      unfold opV
      go_upto_region 2 with fail
      generalize (w1.alloc _ : World) = w2 at K1 D1 ⊢
      generalize w1.heap.size = V at D1 ⊢
      refine wp_region_sink 8 (fun w' => Box w' V 48 #[.int .i64 k, .int .i64 a, .int .i64 d, .int .i64 v] ∧ Box w' (w.heap.size + 1) 40 N) (by kernel_rfl) ⟨D1, K1.nb⟩ (fun hH => ?_)
      replace K1 := K1.later ((Below.refl w2.heap.size w2).drew)
      replace D1 := D1.later ((Below.refl w2.heap.size w2).drew) D1.lt
      generalize w2.drew = w3 at K1 D1 hH ⊢
      refine wpAnyE_pure (i := 0) (v := ?va1) (by simp only [List.getElem?_toArray, List.getElem?_cons_zero]; rfl) (by kernel_rfl) (by kernel_rfl) (by kernel_rfl) (by exact fun _ _ _ h => h) (by kernel_rfl) (Or.inl ⟨by rfl, ?ya1⟩) hH ?ra1
      case ya1 => (intro w' hSw; (try dsimp only at hSw); go_simp; try with_reducible rfl)
      try simp only [Act.put, List.setIfInBounds_toArray, List.set_cons_zero, List.set_cons_succ]
      refine wpAnyE_pure (i := 1) (v := ?vb1) (by simp only [List.getElem?_toArray, List.getElem?_cons_succ, List.getElem?_cons_zero]; rfl) (by kernel_rfl) (by kernel_rfl) (by kernel_rfl) (by exact fun _ _ _ h => h) (by kernel_rfl) (Or.inl ⟨by rfl, ?yb1⟩) hH ?rb1
      case yb1 => (intro w' hSw; (try dsimp only at hSw); go_simp; try with_reducible rfl)
      try simp only [Act.put, List.setIfInBounds_toArray, List.set_cons_zero, List.set_cons_succ]
      refine wpAnyE_takeS (i := 2) (v := .agg #[.int .i64 k, .int .i64 a, .int .i64 d, .int .i64 v]) (by simp only [List.getElem?_toArray, List.getElem?_cons_succ, List.getElem?_cons_zero]; rfl) (by kernel_rfl) (by kernel_rfl) (by kernel_rfl) (by exact fun _ _ _ h => h) (by kernel_rfl) ?yc1 hH ?_
      case yc1 => exact yields_box 48 _ rfl (V) rfl 48 #[.int .i64 k, .int .i64 a, .int .i64 d, .int .i64 v] (fun _ h => h.1) _ Try.underlying48 rfl IO.out (by first | rfl | simp [Region.wanted, yielded] | (simp [Region.wanted, yielded, Act.put] <;> omega))
      try simp only [Act.put, List.setIfInBounds_toArray, List.set_cons_zero, List.set_cons_succ]
      refine wpAnyE_takeS (i := 3) (v := .agg N) (by simp only [List.getElem?_toArray, List.getElem?_cons_succ, List.getElem?_cons_zero]; rfl) (by kernel_rfl) (by kernel_rfl) (by kernel_rfl) (by exact fun _ _ _ h => h) (by kernel_rfl) ?yd1 hH ?_
      case yd1 => exact yields_box 40 _ rfl (w.heap.size + 1) rfl 40 N (fun _ h => h.2) _ Try.underlying40 rfl IN.out (by first | rfl | simp [Region.wanted, yielded] | (simp [Region.wanted, yielded, Act.put] <;> omega))
      try simp only [Act.put, List.setIfInBounds_toArray, List.set_cons_zero, List.set_cons_succ]
      refine wpAnyE_one (i := 4) (by kernel_rfl) (by simp only [List.getElem?_toArray, List.getElem?_cons_succ, List.getElem?_cons_zero]; rfl) (fun K hK => ?_)
      go_simp
      refine (openFor8_is HN.out _).mono ?_
      rintro e w4 ⟨rfl, hb⟩
      replace K1 := K1.later hb
      replace D1 := D1.later hb D1.lt
      clear hb
      clear hH
      refine hK.out _ _ ⟨D1, K1.nb⟩ (fun hH => ?_)
      clear hK K
      try simp only [Act.put, List.setIfInBounds_toArray, List.set_cons_zero, List.set_cons_succ]
      refine wpAnyE_one (i := 5) (by kernel_rfl) (by simp only [List.getElem?_toArray, List.getElem?_cons_succ, List.getElem?_cons_zero]; rfl) (fun K hK => ?_)
      go_simp
      clear hH
      refine hK.out _ _ ⟨D1, K1.nb⟩ (fun hH => ?_)
      clear hK K
      try simp only [Act.put, List.setIfInBounds_toArray, List.set_cons_zero, List.set_cons_succ]
      refine wpAnyE_one (i := 6) (by kernel_rfl) (by simp only [List.getElem?_toArray, List.getElem?_cons_succ, List.getElem?_cons_zero]; rfl) (fun K hK => ?_)
      go_simp
      clear hH
      refine hK.out _ _ ⟨D1, K1.nb⟩ (fun hH => ?_)
      clear hK K
      try simp only [Act.put, List.setIfInBounds_toArray, List.set_cons_zero, List.set_cons_succ]
      refine wpAnyE_end (i := 7) (by kernel_rfl) (by simp only [List.getElem?_toArray, List.getElem?_cons_succ, List.getElem?_cons_zero]; rfl) (by kernel_rfl) (fun K hK => ?_)
      go_simp
      refine hK.out _ _ ⟨D1, K1.nb⟩ ?_
      clear hK K
      try simp only [Act.put, List.setIfInBounds_toArray, List.set_cons_zero, List.set_cons_succ]
      have E := K1.bel
      clear K1 D1 hH
      go_wp2
      go_ret
      exact ⟨by rw [HV.out]; rfl, E⟩
    · go_enter Try.func9, Try.ntmps9
      go_wp2_with fail
      generalize ((w.alloc _).alloc _ : World) = w0 at K0 cN r0 r1 r2 r3 r4 ⊢
      refine (openOf_is rt rq rv X x xc Y y yc os k w0 (by omega) K0.ops).mono ?_
      rw [HG.out]
      rintro e w1 ⟨rfl, hb⟩
      have D1 := Box.new w1 48 #[.int .i64 k, .int .i64 a, .int .i64 d, .int .i64 v]
      have K1 := (K0.later hb).later (bel_alloc w1 (.cells #[.int .i64 k, .int .i64 a, .int .i64 d, .int .i64 v] 48))
      clear K0 cN r0 r1 r2 r3 r4 hb
      unfold opV
      go_upto_region 2 with fail
      generalize (w1.alloc _ : World) = w2 at K1 D1 ⊢
      generalize w1.heap.size = V at D1 ⊢
      refine wp_region_sink 8 (fun w' => Box w' V 48 #[.int .i64 k, .int .i64 a, .int .i64 d, .int .i64 v] ∧ Box w' (w.heap.size + 1) 40 N) (by kernel_rfl) ⟨D1, K1.nb⟩ (fun hH => ?_)
      replace K1 := K1.later ((Below.refl w2.heap.size w2).drew)
      replace D1 := D1.later ((Below.refl w2.heap.size w2).drew) D1.lt
      generalize w2.drew = w3 at K1 D1 hH ⊢
      refine wpAnyE_pure (i := 0) (v := ?va2) (by simp only [List.getElem?_toArray, List.getElem?_cons_zero]; rfl) (by kernel_rfl) (by kernel_rfl) (by kernel_rfl) (by exact fun _ _ _ h => h) (by kernel_rfl) (Or.inl ⟨by rfl, ?ya2⟩) hH ?ra2
      case ya2 => (intro w' hSw; (try dsimp only at hSw); go_simp; try with_reducible rfl)
      try simp only [Act.put, List.setIfInBounds_toArray, List.set_cons_zero, List.set_cons_succ]
      refine wpAnyE_pure (i := 1) (v := ?vb2) (by simp only [List.getElem?_toArray, List.getElem?_cons_succ, List.getElem?_cons_zero]; rfl) (by kernel_rfl) (by kernel_rfl) (by kernel_rfl) (by exact fun _ _ _ h => h) (by kernel_rfl) (Or.inl ⟨by rfl, ?yb2⟩) hH ?rb2
      case yb2 => (intro w' hSw; (try dsimp only at hSw); go_simp; try with_reducible rfl)
      try simp only [Act.put, List.setIfInBounds_toArray, List.set_cons_zero, List.set_cons_succ]
      refine wpAnyE_takeS (i := 2) (v := .agg #[.int .i64 k, .int .i64 a, .int .i64 d, .int .i64 v]) (by simp only [List.getElem?_toArray, List.getElem?_cons_succ, List.getElem?_cons_zero]; rfl) (by kernel_rfl) (by kernel_rfl) (by kernel_rfl) (by exact fun _ _ _ h => h) (by kernel_rfl) ?yc2 hH ?_
      case yc2 => exact yields_box 48 _ rfl (V) rfl 48 #[.int .i64 k, .int .i64 a, .int .i64 d, .int .i64 v] (fun _ h => h.1) _ Try.underlying48 rfl IO.out (by first | rfl | simp [Region.wanted, yielded] | (simp [Region.wanted, yielded, Act.put] <;> omega))
      try simp only [Act.put, List.setIfInBounds_toArray, List.set_cons_zero, List.set_cons_succ]
      refine wpAnyE_takeS (i := 3) (v := .agg N) (by simp only [List.getElem?_toArray, List.getElem?_cons_succ, List.getElem?_cons_zero]; rfl) (by kernel_rfl) (by kernel_rfl) (by kernel_rfl) (by exact fun _ _ _ h => h) (by kernel_rfl) ?yd2 hH ?_
      case yd2 => exact yields_box 40 _ rfl (w.heap.size + 1) rfl 40 N (fun _ h => h.2) _ Try.underlying40 rfl IN.out (by first | rfl | simp [Region.wanted, yielded] | (simp [Region.wanted, yielded, Act.put] <;> omega))
      try simp only [Act.put, List.setIfInBounds_toArray, List.set_cons_zero, List.set_cons_succ]
      refine wpAnyE_one (i := 4) (by kernel_rfl) (by simp only [List.getElem?_toArray, List.getElem?_cons_succ, List.getElem?_cons_zero]; rfl) (fun K hK => ?_)
      go_simp
      refine (openFor8_is HN.out _).mono ?_
      rintro e w4 ⟨rfl, hb⟩
      replace K1 := K1.later hb
      replace D1 := D1.later hb D1.lt
      clear hb
      clear hH
      refine hK.out _ _ ⟨D1, K1.nb⟩ (fun hH => ?_)
      clear hK K
      try simp only [Act.put, List.setIfInBounds_toArray, List.set_cons_zero, List.set_cons_succ]
      refine wpAnyE_one (i := 5) (by kernel_rfl) (by simp only [List.getElem?_toArray, List.getElem?_cons_succ, List.getElem?_cons_zero]; rfl) (fun K hK => ?_)
      go_simp
      clear hH
      refine hK.out _ _ ⟨D1, K1.nb⟩ (fun hH => ?_)
      clear hK K
      try simp only [Act.put, List.setIfInBounds_toArray, List.set_cons_zero, List.set_cons_succ]
      refine wpAnyE_one (i := 6) (by kernel_rfl) (by simp only [List.getElem?_toArray, List.getElem?_cons_succ, List.getElem?_cons_zero]; rfl) (fun K hK => ?_)
      go_simp
      clear hH
      refine hK.out _ _ ⟨D1, K1.nb⟩ (fun hH => ?_)
      clear hK K
      try simp only [Act.put, List.setIfInBounds_toArray, List.set_cons_zero, List.set_cons_succ]
      refine wpAnyE_end (i := 7) (by kernel_rfl) (by simp only [List.getElem?_toArray, List.getElem?_cons_succ, List.getElem?_cons_zero]; rfl) (by kernel_rfl) (fun K hK => ?_)
      go_simp
      refine hK.out _ _ ⟨D1, K1.nb⟩ ?_
      clear hK K
      try simp only [Act.put, List.setIfInBounds_toArray, List.set_cons_zero, List.set_cons_succ]
      have E := K1.bel
      clear K1 D1 hH
      go_wp2
      go_ret
      exact ⟨by rw [HV.out]; rfl, E⟩
    · go_enter Try.func9, Try.ntmps9
      go_wp2_with fail
      generalize ((w.alloc _).alloc _ : World) = w0 at K0 cN r0 r1 r2 r3 r4 ⊢
      refine (openOf_is rt rq rv X x xc Y y yc os k w0 (by omega) K0.ops).mono ?_
      rw [HG.out]
      rintro e w1 ⟨rfl, hb⟩
      have D1 := Box.new w1 48 #[.int .i64 k, .int .i64 a, .int .i64 d, .int .i64 v]
      have K1 := (K0.later hb).later (bel_alloc w1 (.cells #[.int .i64 k, .int .i64 a, .int .i64 d, .int .i64 v] 48))
      clear K0 cN r0 r1 r2 r3 r4 hb
      unfold opV
      go_upto_region 2 with fail
      generalize (w1.alloc _ : World) = w2 at K1 D1 ⊢
      generalize w1.heap.size = V at D1 ⊢
      refine wp_region_sink 8 (fun w' => Box w' V 48 #[.int .i64 k, .int .i64 a, .int .i64 d, .int .i64 v] ∧ Box w' (w.heap.size + 1) 40 N) (by kernel_rfl) ⟨D1, K1.nb⟩ (fun hH => ?_)
      replace K1 := K1.later ((Below.refl w2.heap.size w2).drew)
      replace D1 := D1.later ((Below.refl w2.heap.size w2).drew) D1.lt
      generalize w2.drew = w3 at K1 D1 hH ⊢
      refine wpAnyE_pure (i := 0) (v := ?va3) (by simp only [List.getElem?_toArray, List.getElem?_cons_zero]; rfl) (by kernel_rfl) (by kernel_rfl) (by kernel_rfl) (by exact fun _ _ _ h => h) (by kernel_rfl) (Or.inl ⟨by rfl, ?ya3⟩) hH ?ra3
      case ya3 => (intro w' hSw; (try dsimp only at hSw); go_simp; try with_reducible rfl)
      try simp only [Act.put, List.setIfInBounds_toArray, List.set_cons_zero, List.set_cons_succ]
      refine wpAnyE_pure (i := 1) (v := ?vb3) (by simp only [List.getElem?_toArray, List.getElem?_cons_succ, List.getElem?_cons_zero]; rfl) (by kernel_rfl) (by kernel_rfl) (by kernel_rfl) (by exact fun _ _ _ h => h) (by kernel_rfl) (Or.inl ⟨by rfl, ?yb3⟩) hH ?rb3
      case yb3 => (intro w' hSw; (try dsimp only at hSw); go_simp; try with_reducible rfl)
      try simp only [Act.put, List.setIfInBounds_toArray, List.set_cons_zero, List.set_cons_succ]
      refine wpAnyE_takeS (i := 2) (v := .agg #[.int .i64 k, .int .i64 a, .int .i64 d, .int .i64 v]) (by simp only [List.getElem?_toArray, List.getElem?_cons_succ, List.getElem?_cons_zero]; rfl) (by kernel_rfl) (by kernel_rfl) (by kernel_rfl) (by exact fun _ _ _ h => h) (by kernel_rfl) ?yc3 hH ?_
      case yc3 => exact yields_box 48 _ rfl (V) rfl 48 #[.int .i64 k, .int .i64 a, .int .i64 d, .int .i64 v] (fun _ h => h.1) _ Try.underlying48 rfl IO.out (by first | rfl | simp [Region.wanted, yielded] | (simp [Region.wanted, yielded, Act.put] <;> omega))
      try simp only [Act.put, List.setIfInBounds_toArray, List.set_cons_zero, List.set_cons_succ]
      refine wpAnyE_takeS (i := 3) (v := .agg N) (by simp only [List.getElem?_toArray, List.getElem?_cons_succ, List.getElem?_cons_zero]; rfl) (by kernel_rfl) (by kernel_rfl) (by kernel_rfl) (by exact fun _ _ _ h => h) (by kernel_rfl) ?yd3 hH ?_
      case yd3 => exact yields_box 40 _ rfl (w.heap.size + 1) rfl 40 N (fun _ h => h.2) _ Try.underlying40 rfl IN.out (by first | rfl | simp [Region.wanted, yielded] | (simp [Region.wanted, yielded, Act.put] <;> omega))
      try simp only [Act.put, List.setIfInBounds_toArray, List.set_cons_zero, List.set_cons_succ]
      refine wpAnyE_one (i := 4) (by kernel_rfl) (by simp only [List.getElem?_toArray, List.getElem?_cons_succ, List.getElem?_cons_zero]; rfl) (fun K hK => ?_)
      go_simp
      refine (openFor8_is HN.out _).mono ?_
      rintro e w4 ⟨rfl, hb⟩
      replace K1 := K1.later hb
      replace D1 := D1.later hb D1.lt
      clear hb
      clear hH
      refine hK.out _ _ ⟨D1, K1.nb⟩ (fun hH => ?_)
      clear hK K
      try simp only [Act.put, List.setIfInBounds_toArray, List.set_cons_zero, List.set_cons_succ]
      refine wpAnyE_one (i := 5) (by kernel_rfl) (by simp only [List.getElem?_toArray, List.getElem?_cons_succ, List.getElem?_cons_zero]; rfl) (fun K hK => ?_)
      go_simp
      clear hH
      refine hK.out _ _ ⟨D1, K1.nb⟩ (fun hH => ?_)
      clear hK K
      try simp only [Act.put, List.setIfInBounds_toArray, List.set_cons_zero, List.set_cons_succ]
      refine wpAnyE_one (i := 6) (by kernel_rfl) (by simp only [List.getElem?_toArray, List.getElem?_cons_succ, List.getElem?_cons_zero]; rfl) (fun K hK => ?_)
      go_simp
      clear hH
      refine hK.out _ _ ⟨D1, K1.nb⟩ (fun hH => ?_)
      clear hK K
      try simp only [Act.put, List.setIfInBounds_toArray, List.set_cons_zero, List.set_cons_succ]
      refine wpAnyE_end (i := 7) (by kernel_rfl) (by simp only [List.getElem?_toArray, List.getElem?_cons_succ, List.getElem?_cons_zero]; rfl) (by kernel_rfl) (fun K hK => ?_)
      go_simp
      refine hK.out _ _ ⟨D1, K1.nb⟩ ?_
      clear hK K
      try simp only [Act.put, List.setIfInBounds_toArray, List.set_cons_zero, List.set_cons_succ]
      have E := K1.bel
      clear K1 D1 hH
      go_wp2
      go_ret
      exact ⟨by rw [HV.out]; rfl, E⟩

end
end Go.Proofs.Ytdkmbcmenomecaa
