/- What the model's l8Against and CodeReady answer: contracts of both; conditions: the sizes. -/
import Derived.Test.YtjdepjpjjgkmbaaGreatReadyIn
import Derived.Test.YtjdepjpjjgkmbaaGreatSpecNote2
import Derived.Test.YtjdepjpjjgkmbaaGreatSpecProven
import Derived.Test.YtjdepjpjjgkmbaaGreatReg1
namespace Go.Proofs.YtjdepjpjjgkmbaaGreat
open Go.RowKit

theorem specShelfB8_is {s l c sh : Int} {zs : List Int} {z rt rq rv : Int} {ps : List (Int × Int)} {os : List Opn} {b : Bool} (hB : regB s l c sh zs z rt rq rv ps os = b) (A : Option Addr) (n cap : Nat) (P : Option Addr) (p pc : Nat) (Q : Option Addr) (q qc : Nat) (w : World) (hm : n ≤ maxLen) (hr : Row w w.heap.size A n zs) (hp : p ≤ 4194304) (hq : q ≤ 4194304) (h1 : Pairs w w.heap.size P p ps) (h2 : Quads w w.heap.size Q q os) :
    Calls Tryz.prog 150 #[.agg #[.int .i64 s, .int .i64 l, .int .i64 c, .int .i64 sh, .slice A n cap], .int .i64 z, .agg #[.int .i64 rt, .int .i64 rq, .int .i64 rv, .slice P p pc, .slice Q q qc]] w fun e w' => e = .returned (.bool b) ∧ Below w.heap.size w w' := hB ▸ specRegOk_is s l c sh A n cap zs z rt rq rv P p pc Q q qc ps os w hm hr hp hq h1 h2
theorem spCmp_is {a b c d K : Int} (h : cmpN a b c d = K) (w : World) :
    Calls Tryz.prog 200 #[.agg #[.int .i64 a, .int .i64 b], .agg #[.int .i64 c, .int .i64 d]] w fun e w' => e = .returned (.int .i64 K) ∧ Below w.heap.size w w' := h ▸ specCmp_any a b c d w
theorem l8Wrote_is (x ct cq v : Int) (w : World) : Calls Tryz.prog 162 #[.int .i64 x, .agg #[.int .i64 ct, .int .i64 cq], .int .i64 v] w fun e w' => e = .returned (.agg #[.int .i64 2, .int .i64 x, .int .i64 ct, .int .i64 cq, .int .i64 v]) ∧ Below w.heap.size w w' := by
  have E0 := bel_trans (bel_alloc w (.cells #[.int .i64 ct, .int .i64 cq] 39)) (bel_alloc _ (.cells #[.int .i64 0, .int .i64 0, .int .i64 0, .int .i64 0, .int .i64 0] 180))
  obtain ⟨d0, d1⟩ := ((Box.new w 39 #[.int .i64 ct, .int .i64 cq]).alloc (.cells #[.int .i64 0, .int .i64 0, .int .i64 0, .int .i64 0, .int .i64 0] 180)).two
  go_enter Tryz.func162, Tryz.ntmps162
  go_wp2
  exact bodyPost_ret (v := .agg #[.int .i64 2, .int .i64 x, .int .i64 ct, .int .i64 cq, .int .i64 v]) (by simp [results, Tryz.results162, go_sem]) rfl
    ⟨rfl, by first | exact bel_trans (bel_alloc _ _) (bel_alloc _ _) | exact ((((E0.setCell (by simp) _).setCell (by simp) _).setCell (by simp) _).setCell (by simp) _).setCell (by simp) _⟩
theorem fourAfter {w : World} {g : Nat} {t : TypeId} {v0 v1 v2 v3 : Value} (h : Box w g t #[v0, v1, v2, v3]) :
    (∀ p : After w, p.x.cell? ⟨g, 0, none⟩ = some v0) ∧ (∀ p : After w, p.x.cell? ⟨g, 1, none⟩ = some v1) ∧ (∀ p : After w, p.x.cell? ⟨g, 2, none⟩ = some v2) ∧ (∀ p : After w, p.x.cell? ⟨g, 3, none⟩ = some v3) :=
  ⟨After.cell h.lt (h.cell 0), After.cell h.lt (h.cell 1), After.cell h.lt (h.cell 2), After.cell h.lt (h.cell 3)⟩

section
variable {s l c sh : Int} {A : Option Addr} {n cap : Nat} {zs : List Int} {rt rq rv : Int} {X : Option Addr} {x xc : Nat} {ps : List (Int × Int)} {Y : Option Addr} {y yc : Nat} {os : List Opn} {N : Array Value} {k1 k2 k3 k4 k5 t1 t2 v1 o1 o2 v2 : Int} {P : Option Addr} {p pc : Nat} {Q : Option Addr} {q qc : Nat} {l1 l2 v3 : Int} {cs ms : List (Int × Int)} {w : World}

theorem specNoteOkB_is (hN : N = #[.int .i64 k1, .int .i64 k2, .int .i64 k3, .int .i64 k4, .int .i64 k5, .int .i64 t1, .int .i64 t2, .int .i64 v1, .int .i64 o1, .int .i64 o2, .int .i64 v2, .slice P p pc, .slice Q q qc, .int .i64 l1, .int .i64 l2, .int .i64 v3]) {b : Bool} (h : ntB s l c sh zs k1 k2 k3 k4 k5 t1 t2 v1 o1 o2 v2 cs ms l1 l2 v3 = b) (I : In8 w A n zs X x xc ps Y y yc os P p cs Q q ms) :
    Calls Tryz.prog 149 #[.agg #[.int .i64 s, .int .i64 l, .int .i64 c, .int .i64 sh, .slice A n cap], .agg N] w fun e w' => e = .returned (.bool b) ∧ Below w.heap.size w w' :=
  h ▸ specNoteN_is hN s l c sh A n cap zs cs ms w I.hn (by unfold maxLen; have := I.hp; omega) (by unfold maxLen; have := I.hq; omega) I.row I.crs I.mrs

set_option maxHeartbeats 8000000 in
theorem against_is (hN : N = #[.int .i64 k1, .int .i64 k2, .int .i64 k3, .int .i64 k4, .int .i64 k5, .int .i64 t1, .int .i64 t2, .int .i64 v1, .int .i64 o1, .int .i64 o2, .int .i64 v2, .slice P p pc, .slice Q q qc, .int .i64 l1, .int .i64 l2, .int .i64 v3]) (I : In8 w A n zs X x xc ps Y y yc os P p cs Q q ms) {b : Bool} (h : agS s l c sh zs os k2 k5 t1 t2 v1 l1 l2 v3 ms = b) :
    Calls Tryz.prog 153 #[.agg #[.int .i64 s, .int .i64 l, .int .i64 c, .int .i64 sh, .slice A n cap], .agg #[.int .i64 rt, .int .i64 rq, .int .i64 rv, .slice X x xc, .slice Y y yc], .agg N] w fun e w' => e = .returned (.bool b) ∧ Below w.heap.size w w' := by
  have K0 := K8.start w N s l c sh cap rt rq rv I
  obtain ⟨n0, n1, n2, n3, n4, n5, n6, n7, n8, n9, n10, n11, n12, n13, n14, n15⟩ := cellsN hN
  have cN := K0.nb.cell
  obtain ⟨r0, r1, r2, r3, r4⟩ := K0.rb.five
  clear hN I n0 n2 n3 n8 n9 n10 n11
  rcases hg : getO os k2 with _ | ⟨k, a, d, v⟩
  · have HV : Hid (b = false) := Lib.hid (by rw [← h]; exact opnF_none hg _)
    have HG := Lib.hid hg
    clear hg h
    go_enter Tryz.func153, Tryz.ntmps153
    go_wp2_with fail
    generalize (((w.alloc _).alloc _).alloc _ : World) = w0 at K0 cN r0 r1 r2 r3 r4 ⊢
    refine (specOpenOf_is rt rq rv X x xc Y y yc os k2 w0 (by have := K0.inp.hy; omega) K0.inp.ops).mono ?_
    rw [HG.out]
    rintro e w1 ⟨rfl, hb⟩
    have E := bel_trans (bel_trans K0.bel hb) (bel_alloc w1 (.cells #[.int .i64 0, .int .i64 0, .int .i64 0, .int .i64 0] 97))
    clear K0 cN r0 r1 r2 r3 r4
    unfold opV
    go_wp2
    go_ret
    exact ⟨by rw [HV.out]; rfl, E⟩
  · have hv : b = if cmpN a d t1 t2 = 0 then !decide (v = v1) else if cmpN a d t1 t2 = -1 then !decide (l2 = k2) || decide (cmpN l1 l2 a d < 0) || !cerB s l c sh zs 2 k5 l1 l2 v3 ms else true := by
      rw [← h]; exact opnF_some hg _
    obtain ⟨C, hC⟩ : ∃ C, cmpN a d t1 t2 = C := ⟨_, rfl⟩
    rw [hC] at hv
    have hcc := cmp_cases a d t1 t2
    rw [hC] at hcc
    have HC := Lib.hid hC
    have HG := Lib.hid hg
    replace hv := Lib.hid hv
    replace hcc := Lib.hid hcc
    clear hg hC h
    go_enter Tryz.func153, Tryz.ntmps153
    go_wp2_with fail
    generalize (((w.alloc _).alloc _).alloc _ : World) = w0 at K0 cN r0 r1 r2 r3 r4 ⊢
    refine (specOpenOf_is rt rq rv X x xc Y y yc os k2 w0 (by have := K0.inp.hy; omega) K0.inp.ops).mono ?_
    rw [HG.out]
    rintro e w1 ⟨rfl, hb⟩
    have D1 := Box.new w1 97 #[.int .i64 k, .int .i64 a, .int .i64 d, .int .i64 v]
    have K1 := (K0.later hb).later (bel_alloc w1 (.cells #[.int .i64 k, .int .i64 a, .int .i64 d, .int .i64 v] 97))
    clear K0 cN r0 r1 r2 r3 r4 hb
    have cN := K1.nb.cell
    unfold opV
    go_wp2_with fail
    generalize (w1.alloc _ : World) = w2 at K1 D1 cN ⊢
    generalize w1.heap.size = S at D1 ⊢
    refine (spCmp_is HC.out w2).mono ?_
    rintro e w3 ⟨rfl, hb⟩
    replace K1 := K1.later hb
    replace D1 := D1.later hb D1.lt
    clear cN hb
    have cN := K1.nb.cell
    obtain ⟨d0, d1, d2, d3⟩ := D1.four
    have E := K1.bel
    rcases hcc.out with rfl | ⟨rfl, -, -⟩ | ⟨rfl, rfl, rfl⟩ | ⟨rfl, -, -⟩
    · have HV : Hid (b = true) := Lib.hid hv.out
      clear K1 D1 hcc
      go_wp2
      go_ret
      exact ⟨by rw [HV.out]; rfl, E⟩
    · have hv2 : Hid (b = (!decide (l2 = k2) || decide (cmpN l1 l2 a d < 0) || !cerB s l c sh zs 2 k5 l1 l2 v3 ms)) := Lib.hid hv.out
      obtain ⟨g0, g1, g2, g3, g4⟩ := fiveAfter K1.gb
      have m1 := After.cell K1.nb.lt ((K1.nb.cell 1).trans n1)
      have m4 := After.cell K1.nb.lt ((K1.nb.cell 4).trans n4)
      have m12 := After.cell K1.nb.lt ((K1.nb.cell 12).trans n12)
      have m13 := After.cell K1.nb.lt ((K1.nb.cell 13).trans n13)
      have m14 := After.cell K1.nb.lt ((K1.nb.cell 14).trans n14)
      have m15 := After.cell K1.nb.lt ((K1.nb.cell 15).trans n15)
      obtain ⟨f0, f1, f2, f3⟩ := fourAfter D1
      have hrow := Lib.hid K1.inp.row
      have hmrs := Lib.hid K1.inp.mrs
      have hnn := Lib.hid K1.inp.hn
      have hqq : q ≤ 4194304 := by have := K1.inp.hq; omega
      replace hqq := Lib.hid hqq
      clear cN n1 n4 n5 n6 n7 n12 n13 n14 n15 d0 d1 d2 d3 D1 K1 hcc hv
      by_cases hl : l2 = k2
      · have hl' : (l2 != k2) = false := by simpa using hl
        obtain ⟨yb, hy⟩ : ∃ yb, cerB s l c sh zs 2 k5 l1 l2 v3 ms = yb := ⟨_, rfl⟩
        have HY := Lib.hid hy
        rcases cmp_cases l1 l2 a d with g | ⟨g, -, -⟩ | ⟨g, -, -⟩ | ⟨g, -, -⟩
        · have HV : Hid (b = !yb) := Lib.hid (by rw [hv2.out, hy, g]; simp [hl])
          have HM := Lib.hid g
          clear g hy hl hv2
          go_wp2_with fail
          refine wp_region_after (by kernel_rfl) (by kernel_rfl) ?_
          repeat (first | go_big_quiet_step ((first | (go_at_call 200; exact after_of (spCmp_is HM.out _)) | (go_at_call 162; exact after_of (l8Wrote_is _ _ _ _ _)) | (go_at_call 199; exact after_of (specCertB_is HY.out _ n cap _ q qc _ hnn.out (rowAfter hrow.out _) hqq.out (pairsAfter hmrs.out _))))) | quiet_step ((first | (go_at_call 200; exact after_of (spCmp_is HM.out _)) | (go_at_call 162; exact after_of (l8Wrote_is _ _ _ _ _)) | (go_at_call 199; exact after_of (specCertB_is HY.out _ n cap _ q qc _ hnn.out (rowAfter hrow.out _) hqq.out (pairsAfter hmrs.out _))))))
          refine wpQuiet_nil ?_
          intro pw
          go_wp2
          go_ret
          exact ⟨by rw [HV.out]; rfl, bel_trans E pw.bel⟩
        · have HV : Hid (b = true) := Lib.hid (by rw [hv2.out, hy, g]; simp)
          have HM := Lib.hid g
          clear g hy hl hv2
          go_wp2_with fail
          refine wp_region_after (by kernel_rfl) (by kernel_rfl) ?_
          repeat (first | go_big_quiet_step ((first | (go_at_call 200; exact after_of (spCmp_is HM.out _)) | (go_at_call 162; exact after_of (l8Wrote_is _ _ _ _ _)) | (go_at_call 199; exact after_of (specCertB_is HY.out _ n cap _ q qc _ hnn.out (rowAfter hrow.out _) hqq.out (pairsAfter hmrs.out _))))) | quiet_step ((first | (go_at_call 200; exact after_of (spCmp_is HM.out _)) | (go_at_call 162; exact after_of (l8Wrote_is _ _ _ _ _)) | (go_at_call 199; exact after_of (specCertB_is HY.out _ n cap _ q qc _ hnn.out (rowAfter hrow.out _) hqq.out (pairsAfter hmrs.out _))))))
          refine wpQuiet_nil ?_
          intro pw
          go_wp2
          go_ret
          exact ⟨by rw [HV.out]; rfl, bel_trans E pw.bel⟩
        · have HV : Hid (b = !yb) := Lib.hid (by rw [hv2.out, hy, g]; simp [hl])
          have HM := Lib.hid g
          clear g hy hl hv2
          go_wp2_with fail
          refine wp_region_after (by kernel_rfl) (by kernel_rfl) ?_
          repeat (first | go_big_quiet_step ((first | (go_at_call 200; exact after_of (spCmp_is HM.out _)) | (go_at_call 162; exact after_of (l8Wrote_is _ _ _ _ _)) | (go_at_call 199; exact after_of (specCertB_is HY.out _ n cap _ q qc _ hnn.out (rowAfter hrow.out _) hqq.out (pairsAfter hmrs.out _))))) | quiet_step ((first | (go_at_call 200; exact after_of (spCmp_is HM.out _)) | (go_at_call 162; exact after_of (l8Wrote_is _ _ _ _ _)) | (go_at_call 199; exact after_of (specCertB_is HY.out _ n cap _ q qc _ hnn.out (rowAfter hrow.out _) hqq.out (pairsAfter hmrs.out _))))))
          refine wpQuiet_nil ?_
          intro pw
          go_wp2
          go_ret
          exact ⟨by rw [HV.out]; rfl, bel_trans E pw.bel⟩
        · have HV : Hid (b = !yb) := Lib.hid (by rw [hv2.out, hy, g]; simp [hl])
          have HM := Lib.hid g
          clear g hy hl hv2
          go_wp2_with fail
          refine wp_region_after (by kernel_rfl) (by kernel_rfl) ?_
          repeat (first | go_big_quiet_step ((first | (go_at_call 200; exact after_of (spCmp_is HM.out _)) | (go_at_call 162; exact after_of (l8Wrote_is _ _ _ _ _)) | (go_at_call 199; exact after_of (specCertB_is HY.out _ n cap _ q qc _ hnn.out (rowAfter hrow.out _) hqq.out (pairsAfter hmrs.out _))))) | quiet_step ((first | (go_at_call 200; exact after_of (spCmp_is HM.out _)) | (go_at_call 162; exact after_of (l8Wrote_is _ _ _ _ _)) | (go_at_call 199; exact after_of (specCertB_is HY.out _ n cap _ q qc _ hnn.out (rowAfter hrow.out _) hqq.out (pairsAfter hmrs.out _))))))
          refine wpQuiet_nil ?_
          intro pw
          go_wp2
          go_ret
          exact ⟨by rw [HV.out]; rfl, bel_trans E pw.bel⟩
      · have HV : Hid (b = true) := Lib.hid (by rw [hv2.out]; simp [hl])
        have hl' : (l2 != k2) = true := by simpa using hl
        clear hl hv2
        go_wp2_with fail
        refine wp_region_after (by kernel_rfl) (by kernel_rfl) ?_
        repeat (first | go_big_quiet_step (fail) | quiet_step (fail))
        refine wpQuiet_nil ?_
        intro pw
        go_wp2
        go_ret
        exact ⟨by rw [HV.out]; rfl, bel_trans E pw.bel⟩
    · by_cases hvv : v = v1
      · subst hvv
        have HV : Hid (b = false) := Lib.hid (by rw [hv.out]; simp)
        clear K1 D1 hcc
        go_wp2
        go_ret
        exact ⟨by rw [HV.out]; rfl, E⟩
      · have HV : Hid (b = true) := Lib.hid (by rw [hv.out]; simp [hvv])
        have hv' : (v != v1) = true := by simpa using hvv
        clear K1 D1 hcc hvv
        go_wp2
        go_ret
        exact ⟨by rw [HV.out]; rfl, E⟩
    · have HV : Hid (b = true) := Lib.hid hv.out
      clear K1 D1 hcc
      go_wp2
      go_ret
      exact ⟨by rw [HV.out]; rfl, E⟩

end
end Go.Proofs.YtjdepjpjjgkmbaaGreat
