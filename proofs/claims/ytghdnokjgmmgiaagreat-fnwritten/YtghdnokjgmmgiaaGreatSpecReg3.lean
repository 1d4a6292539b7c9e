/- The model's RegOk: its contract. -/
import Derived.Test.YtghdnokjgmmgiaaGreatSpecReg2
namespace Go.Proofs.YtghdnokjgmmgiaaGreat
open Go.RowKit

set_option maxRecDepth 100000 in
set_option maxHeartbeats 2000000 in
theorem specRegOk_is (s l c sh : Int) (A : Option Addr) (n cap : Nat) (zs : List Int) (si rt rq rv : Int) (P : Option Addr) (p pc : Nat) (Q : Option Addr) (q qc : Nat) (ps : List (Int × Int)) (os : List Opn) (w : World) (hm : n ≤ maxLen) (hr : Row w w.heap.size A n zs) (hp : p ≤ 4194304) (hq : q ≤ 4194304) (h1 : Pairs w w.heap.size P p ps) (h2 : Quads w w.heap.size Q q os) :
    Calls Tryz.prog 11 #[.agg #[.int .i64 s, .int .i64 l, .int .i64 c, .int .i64 sh, .slice A n cap], .int .i64 si, .agg #[.int .i64 rt, .int .i64 rq, .int .i64 rv, .slice P p pc, .slice Q q qc]] w fun e w' => e = .returned (.bool (regB s l c sh zs si rt rq rv ps os)) ∧ Below w.heap.size w w' := by
  have G := (Box.new w 26 #[.int .i64 s, .int .i64 l, .int .i64 c, .int .i64 sh, .slice A n cap]).alloc (.cells #[.int .i64 rt, .int .i64 rq, .int .i64 rv, .slice P p pc, .slice Q q qc] 32)
  have D := Box.new (w.alloc (.cells #[.int .i64 s, .int .i64 l, .int .i64 c, .int .i64 sh, .slice A n cap] 26)) 32 #[.int .i64 rt, .int .i64 rq, .int .i64 rv, .slice P p pc, .slice Q q qc]
  have E := bel_trans (bel_alloc w (.cells #[.int .i64 s, .int .i64 l, .int .i64 c, .int .i64 sh, .slice A n cap] 26)) (bel_alloc _ (.cells #[.int .i64 rt, .int .i64 rq, .int .i64 rv, .slice P p pc, .slice Q q qc] 32))
  simp only [World.size_alloc] at D
  have HL := Lib.hid h2.1
  have HR := Lib.hid hr
  have HP := Lib.hid h1
  have HQ := Lib.hid h2
  have HM := Lib.hid hm
  clear hr hm h1 h2
  go_enter Tryz.func11, Tryz.ntmps11
  go_wp2_with fail
  generalize ((w.alloc _).alloc _ : World) = w0 at D G E ⊢
  go_loopw [7] (fun iv wr => ∃ k : Nat, k ≤ q ∧ iv = .int .i64 k ∧ (∀ j, j < k → stepB (opnB s l c sh zs) os j = true) ∧ Box wr w.heap.size 26 #[.int .i64 s, .int .i64 l, .int .i64 c, .int .i64 sh, .slice A n cap] ∧ Box wr (w.heap.size + 1) 32 #[.int .i64 rt, .int .i64 rq, .int .i64 rv, .slice P p pc, .slice Q q qc] ∧ Below w.heap.size w wr) (fun i _ => q - (intOf i).toNat)
  case atStart => exact ⟨0, Nat.zero_le _, rfl, fun j hj => absurd hj (by omega), G, D, E⟩
  case round =>
    clear G D E
    obtain ⟨k, hk, rfl, hst, G, D, hb⟩ := hrel
    have d4 : wr.cell? ⟨w.heap.size + 1, 4, none⟩ = some (.slice Q q qc) := D.cell 4
    by_cases hlt : k < q
    · obtain ⟨b, o, hA, hbB, hcell⟩ := HQ.out.2 (by omega)
      subst hA
      have hzb := hb.size
      obtain ⟨g0, g1, g2, g3⟩ := hcell k hlt
      have g0 := After.cell (w := wr) (a := ⟨b, o + k * 4, none⟩) (by show b < _; omega) ((hb.cell (p := ⟨b, o + k * 4, none⟩) hbB).trans g0)
      have g1 := After.cell (w := wr) (a := ⟨b, o + k * 4 + 1, none⟩) (by show b < _; omega) ((hb.cell (p := ⟨b, o + k * 4 + 1, none⟩) hbB).trans g1)
      have g2 := After.cell (w := wr) (a := ⟨b, o + k * 4 + 2, none⟩) (by show b < _; omega) ((hb.cell (p := ⟨b, o + k * 4 + 2, none⟩) hbB).trans g2)
      have g3 := After.cell (w := wr) (a := ⟨b, o + k * 4 + 3, none⟩) (by show b < _; omega) ((hb.cell (p := ⟨b, o + k * 4 + 3, none⟩) hbB).trans g3)
      generalize hx : oth os k = x at g0 g1 g2 g3
      obtain ⟨x, t, y, v⟩ := x
      have HX := Lib.hid hx
      have hlt' : (k : Int) < (q : Int) := by omega
      replace hst := Lib.hid hst
      clear hx
      obtain ⟨e0, e1, e2, e3, e4⟩ := fiveAfter G
      have m4 := After.cell (w := wr) (a := ⟨w.heap.size + 1, 4, none⟩) D.lt d4
      have hrow := Lib.hid ((HR.out.below hb (Nat.le_refl _)).more hb.size)
      rcases hR : opnB s l c sh zs (x, t, y, v) with _ | _
      · have HF0 : opsB (opnB s l c sh zs) os = false := opsB_false (k := k) (by rw [HL.out]; exact hlt) (by unfold stepB; rw [HX.out, hR]; rfl)
        have HF : Hid (regB s l c sh zs si rt rq rv ps os = false) := Lib.hid (by unfold regB; rw [HF0, Bool.and_false])
        have HRR := Lib.hid hR
        clear hR hcell HF0
        go_wp2_with fail
        refine wp_region_after (by kernel_rfl) (by kernel_rfl) ?_
        repeat (first | go_big_quiet_step ((go_at_call 46; exact after_of (l7OpenB_is HRR.out _ n cap _ HM.out (rowAfter hrow.out _)))) | quiet_step ((go_at_call 46; exact after_of (l7OpenB_is HRR.out _ n cap _ HM.out (rowAfter hrow.out _)))))
        refine wpQuiet_nil ?_
        intro pw
        go_wp2
        go_ret
        exact ⟨by rw [HF.out]; rfl, bel_trans hb pw.bel⟩
      · have HRR := Lib.hid hR
        rcases k with _ | j
        · have hst2 := Lib.hid (show ∀ i, i < 0 + 1 → stepB (opnB s l c sh zs) os i = true from fun i hi => by
            obtain rfl : i = 0 := by omega
            unfold stepB; rw [HX.out, hR]; rfl)
          clear hR hcell
          simp only [Nat.zero_mul, Nat.add_zero] at g0 g1 g2 g3
          go_wp2_with fail
          refine wp_region_after (by kernel_rfl) (by kernel_rfl) ?_
          repeat (first | go_big_quiet_step ((go_at_call 46; exact after_of (l7OpenB_is HRR.out _ n cap _ HM.out (rowAfter hrow.out _)))) | quiet_step ((go_at_call 46; exact after_of (l7OpenB_is HRR.out _ n cap _ HM.out (rowAfter hrow.out _)))))
          refine wpQuiet_nil ?_
          intro pw
          have G3 := Lib.hid (G.later pw.bel G.lt)
          have D3 := Lib.hid (D.later pw.bel D.lt)
          have E3 := Lib.hid (bel_trans hb pw.bel)
          go_wp2
          go_roundw
          case rel => exact ⟨1, by omega, by go_num, hst2.out, G3.out, D3.out, E3.out⟩
          case measure => simp [intOf]; omega
        · obtain ⟨p0, _, _, _⟩ := hcell j (by omega)
          have p0 := After.cell (w := wr) (a := ⟨b, o + j * 4, none⟩) (by show b < _; omega) ((hb.cell (p := ⟨b, o + j * 4, none⟩) hbB).trans p0)
          have hxx : Hid (stepB (opnB s l c sh zs) os (j + 1) = decide ((oth os j).1 < x)) := Lib.hid (by unfold stepB; rw [HX.out, hR]; simp)
          generalize (oth os j).1 = z at p0 hxx
          have hj0 : (0 : Int) ≤ (j : Int) := by omega
          have hj1 : (j : Int) < (q : Int) := by omega
          have hjw : IntKind.i64.wrap ((j : Int) + 1 - 1) = (j : Int) := by rw [Int.add_sub_cancel]; exact IntWalk.i64_in _ (by omega)
          have hjw' : IntKind.i64.wrap (j : Int) = (j : Int) := IntWalk.i64_in _ (by omega)
          have hpos : (0 : Int) < (j : Int) + 1 := by omega
          clear hR hcell
          by_cases hz : z < x
          · have hst2 := Lib.hid (show ∀ i, i < j + 1 + 1 → stepB (opnB s l c sh zs) os i = true from fun i hi => by
              by_cases ei : i = j + 1
              · subst ei; rw [hxx.out]; exact decide_eq_true hz
              · exact hst.out i (by omega))
            have hz1 : decide (x ≤ z) = false := decide_eq_false (by omega)
            go_wp2_with fail
            refine wp_region_after (by kernel_rfl) (by kernel_rfl) ?_
            repeat (first | go_big_quiet_step ((go_at_call 46; exact after_of (l7OpenB_is HRR.out _ n cap _ HM.out (rowAfter hrow.out _)))) | quiet_step ((go_at_call 46; exact after_of (l7OpenB_is HRR.out _ n cap _ HM.out (rowAfter hrow.out _)))))
            refine wpQuiet_nil ?_
            intro pw
            have G3 := Lib.hid (G.later pw.bel G.lt)
            have D3 := Lib.hid (D.later pw.bel D.lt)
            have E3 := Lib.hid (bel_trans hb pw.bel)
            clear hjw hjw' p0
            go_wp2
            go_roundw
            case rel => exact ⟨j + 1 + 1, by omega, by go_num, hst2.out, G3.out, D3.out, E3.out⟩
            case measure => simp [intOf]; omega
          · have HF0 : opsB (opnB s l c sh zs) os = false := opsB_false (k := j + 1) (by rw [HL.out]; exact hlt) (by rw [hxx.out]; exact decide_eq_false hz)
            have HF : Hid (regB s l c sh zs si rt rq rv ps os = false) := Lib.hid (by unfold regB; rw [HF0, Bool.and_false])
            have hz1 : decide (x ≤ z) = true := decide_eq_true (by omega)
            clear HF0
            go_wp2_with fail
            refine wp_region_after (by kernel_rfl) (by kernel_rfl) ?_
            repeat (first | go_big_quiet_step ((go_at_call 46; exact after_of (l7OpenB_is HRR.out _ n cap _ HM.out (rowAfter hrow.out _)))) | quiet_step ((go_at_call 46; exact after_of (l7OpenB_is HRR.out _ n cap _ HM.out (rowAfter hrow.out _)))))
            refine wpQuiet_nil ?_
            intro pw
            clear hjw hjw' p0
            go_wp2
            go_ret
            exact ⟨by rw [HF.out]; rfl, bel_trans hb pw.bel⟩
    · obtain rfl : k = q := by omega
      have HF : Hid (regB s l c sh zs si rt rq rv ps os = lefB s l c sh zs si rt rq rv ps) := Lib.hid (by unfold regB; rw [opsB_true fun j hj => hst j (by rw [← HL.out]; exact hj), Bool.and_true])
      replace hst := Lib.hid hst
      obtain ⟨e0, e1, e2, e3, e4⟩ := G.five
      obtain ⟨d0, d1, d2, d3, -⟩ := D.five
      go_wp2_with fail
      refine (l7Proven_is s l c sh A n cap zs si rt rq rv P p pc ps wr HM.out ((HR.out.below hb (Nat.le_refl _)).more hb.size) hp (HP.out.later hb)).mono ?_
      rintro e w2 ⟨rfl, hb2⟩
      have E2 := bel_trans hb hb2
      go_wp2
      go_ret
      exact ⟨by rw [HF.out]; rfl, E2⟩

end Go.Proofs.YtghdnokjgmmgiaaGreat
