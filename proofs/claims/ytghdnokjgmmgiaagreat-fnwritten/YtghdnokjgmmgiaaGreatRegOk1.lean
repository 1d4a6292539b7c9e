/- What RegOk's parts compute (the program's): an open that is right, opens in order, seals that are as they are left: contracts of each of them. -/
import Derived.Test.YtghdnokjgmmgiaaGreatRegBase
import Derived.Test.YtghdnokjgmmgiaaGreatProven
import Derived.Test.YtghdnokjgmmgiaaGreatCert3
namespace Go.Proofs.YtghdnokjgmmgiaaGreat
open Go.RowKit

/-- An open that is right. -/
def opnB (s l c sh : Int) (zs : List Int) (o : Opn) : Bool := cliB s l c sh zs o.1 && decide (o.2.2.1 = o.1) && decide (1 ≤ o.2.1) && stB o.2.1 o.2.2.1 && valB o.2.2.2
theorem opn_1 {s l c sh : Int} {zs : List Int} {k t y v : Int} (h : cliB s l c sh zs k = false) : opnB s l c sh zs (k, t, y, v) = false := by simp [opnB, h]
theorem opn_2 {s l c sh : Int} {zs : List Int} {k t y v : Int} (h : y ≠ k) : opnB s l c sh zs (k, t, y, v) = false := by simp [opnB, h]
theorem opn_3 {s l c sh : Int} {zs : List Int} {k t y v : Int} (h : ¬ 1 ≤ t) : opnB s l c sh zs (k, t, y, v) = false := by simp [opnB, h]
theorem opn_4 {s l c sh : Int} {zs : List Int} {k t y v : Int} (h : stB t y = false) : opnB s l c sh zs (k, t, y, v) = false := by simp [opnB, h]
theorem opn_5 {s l c sh : Int} {zs : List Int} {k t v : Int} (h1 : cliB s l c sh zs k = true) (h3 : 1 ≤ t) (h4 : stB t k = true) : opnB s l c sh zs (k, t, k, v) = valB v := by simp [opnB, h1, h3, h4]
/-- The open at place i is right, and of a later client than the one ahead of it. -/
def stepB (R : Opn → Bool) (os : List Opn) (i : Nat) : Bool := R (oth os i) && (decide (i = 0) || decide ((oth os (i - 1)).1 < (oth os i).1))
def opsB (R : Opn → Bool) (os : List Opn) : Bool := (List.range os.length).all (stepB R os)
theorem opsB_false {R : Opn → Bool} {os : List Opn} {k : Nat} (hk : k < os.length) (h : stepB R os k = false) : opsB R os = false := by
  unfold opsB
  rw [List.all_eq_false]
  exact ⟨k, List.mem_range.2 hk, by simp [h]⟩
theorem opsB_true {R : Opn → Bool} {os : List Opn} (h : ∀ j, j < os.length → stepB R os j = true) : opsB R os = true := by
  unfold opsB
  rw [List.all_eq_true]
  exact fun j hj => h j (List.mem_range.1 hj)

theorem isValR_is {x : Int} {b : Bool} (h : valB x = b) (w : World) : Calls Tryz.prog 108 #[.int .i64 x] w fun e w' => e = .returned (.bool b) ∧ w = w' := by
  subst h
  go_enter Tryz.func108, Tryz.ntmps108
  go_wp2_with (go_at_call 89; refine (within_any _ _ _ _).mono ?_; rintro e w' ⟨rfl, rfl⟩)
  go_ret
  exact ⟨rfl, rfl⟩
theorem clientR_is {s l c sh : Int} {zs : List Int} {x : Int} {b : Bool} (h : cliB s l c sh zs x = b) (A : Option Addr) (n cap : Nat) (w : World) (hm : n ≤ maxLen) (hr : Row w w.heap.size A n zs) :
    Calls Tryz.prog 107 #[.agg #[.int .i64 s, .int .i64 l, .int .i64 c, .int .i64 sh, .slice A n cap], .int .i64 x] w fun e w' => e = .returned (.bool b) ∧ Below w.heap.size w w' := h ▸ client_any s l c sh A n cap zs x w hm hr
theorem stampR_is {c k : Int} {b : Bool} (h : stB c k = b) (w : World) : Calls Tryz.prog 48 #[.agg #[.int .i64 c, .int .i64 k]] w fun e w' => e = .returned (.bool b) ∧ Below w.heap.size w w' := h ▸ stampOk_any c k w

set_option maxHeartbeats 1000000 in
theorem isRight_is (s l c sh : Int) (A : Option Addr) (n cap : Nat) (zs : List Int) (k t y v : Int) (w : World) (hm : n ≤ maxLen) (hr : Row w w.heap.size A n zs) :
    Calls Tryz.prog 85 #[.agg #[.int .i64 k, .int .i64 t, .int .i64 y, .int .i64 v], .agg #[.int .i64 s, .int .i64 l, .int .i64 c, .int .i64 sh, .slice A n cap]] w fun e w' => e = .returned (.bool (opnB s l c sh zs (k, t, y, v))) ∧ Below w.heap.size w w' := by
  have D := (Box.new w 82 #[.int .i64 k, .int .i64 t, .int .i64 y, .int .i64 v]).alloc (.cells #[.int .i64 s, .int .i64 l, .int .i64 c, .int .i64 sh, .slice A n cap] 26)
  have E := bel_trans (bel_alloc w (.cells #[.int .i64 k, .int .i64 t, .int .i64 y, .int .i64 v] 82)) (bel_alloc _ (.cells #[.int .i64 s, .int .i64 l, .int .i64 c, .int .i64 sh, .slice A n cap] 26))
  have HR := Lib.hid ((hr.below E (Nat.le_refl _)).more E.size)
  have HM := Lib.hid hm
  clear hr hm
  rcases hcl : cliB s l c sh zs k with _ | _
  · have HV := Lib.hid (opn_1 (t := t) (y := y) (v := v) hcl)
    have HC := Lib.hid hcl
    clear hcl
    go_enter Tryz.func85, Tryz.ntmps85
    go_wp2_with fail
    generalize ((w.alloc _).alloc _ : World) = w0 at D E HR ⊢
    refine (clientR_is HC.out A n cap w0 HM.out HR.out).mono ?_
    rintro e w1 ⟨rfl, hb1⟩
    go_wp2
    go_ret
    exact ⟨by rw [HV.out]; rfl, bel_trans E hb1⟩
  · have HC := Lib.hid hcl
    clear hcl
    go_enter Tryz.func85, Tryz.ntmps85
    go_wp2_with fail
    generalize ((w.alloc _).alloc _ : World) = w0 at D E HR ⊢
    refine (clientR_is HC.out A n cap w0 HM.out HR.out).mono ?_
    rintro e w1 ⟨rfl, hb1⟩
    have D1 := D.later hb1 D.lt
    have E1 := bel_trans E hb1
    clear D E HR hb1
    obtain ⟨d0, d1, d2, d3⟩ := D1.four
    by_cases h2 : y = k
    · subst h2
      by_cases h3 : 1 ≤ t
      · rcases h4 : stB t y with _ | _
        · have HV := Lib.hid (opn_4 (s := s) (l := l) (c := c) (sh := sh) (zs := zs) (k := y) (v := v) h4)
          have H4 := Lib.hid h4
          clear h4
          go_wp2_with (go_at_call 48; refine (stampR_is H4.out _).mono ?_; rintro e w2 ⟨rfl, hb2⟩; have E2 := bel_trans E1 hb2)
          go_ret
          exact ⟨by rw [HV.out]; rfl, E2⟩
        · have HV := Lib.hid (opn_5 (v := v) HC.out h3 h4)
          have H4 := Lib.hid h4
          clear h4
          rcases h5 : valB v with _ | _
          all_goals
            have H5 := Lib.hid h5
            clear h5
            go_wp2_with fail
            refine (stampR_is H4.out w1).mono ?_
            rintro e w2 ⟨rfl, hb2⟩
            have E2 := bel_trans E1 hb2
            have D2 := D1.later hb2 D1.lt
            have c3 : w2.cell? ⟨w.heap.size, 3, none⟩ = some (.int .i64 v) := D2.cell 3
            clear D2 hb2
            go_wp2_with (go_at_call 108; refine (isValR_is H5.out _).mono ?_; rintro e w3 ⟨rfl, rfl⟩)
            go_ret
            exact ⟨by rw [HV.out, H5.out]; rfl, E2⟩
      · have HV := Lib.hid (opn_3 (s := s) (l := l) (c := c) (sh := sh) (zs := zs) (k := y) (y := y) (v := v) h3)
        go_wp2
        go_ret
        exact ⟨by rw [HV.out]; rfl, E1⟩
    · have h2' : (y == k) = false := by simpa using h2
      have HV := Lib.hid (opn_2 (s := s) (l := l) (c := c) (sh := sh) (zs := zs) (t := t) (v := v) h2)
      go_wp2
      go_ret
      exact ⟨by rw [HV.out]; rfl, E1⟩
theorem isRightB_is {s l c sh : Int} {zs : List Int} {k t y v : Int} {b : Bool} (h : opnB s l c sh zs (k, t, y, v) = b) (A : Option Addr) (n cap : Nat) (w : World) (hm : n ≤ maxLen) (hr : Row w w.heap.size A n zs) :
    Calls Tryz.prog 85 #[.agg #[.int .i64 k, .int .i64 t, .int .i64 y, .int .i64 v], .agg #[.int .i64 s, .int .i64 l, .int .i64 c, .int .i64 sh, .slice A n cap]] w fun e w' => e = .returned (.bool b) ∧ Below w.heap.size w w' := h ▸ isRight_is s l c sh A n cap zs k t y v w hm hr

theorem quadA {w : World} {g : Nat} {t : TypeId} {v0 v1 v2 v3 : Value} (h : Box w g t #[v0, v1, v2, v3]) :
    (∀ p : After w, p.x.cell? ⟨g, 0, none⟩ = some v0) ∧ (∀ p : After w, p.x.cell? ⟨g, 1, none⟩ = some v1) ∧ (∀ p : After w, p.x.cell? ⟨g, 2, none⟩ = some v2) ∧ (∀ p : After w, p.x.cell? ⟨g, 3, none⟩ = some v3) :=
  ⟨After.cell h.lt (h.cell 0), After.cell h.lt (h.cell 1), After.cell h.lt (h.cell 2), After.cell h.lt (h.cell 3)⟩

set_option maxRecDepth 100000 in
set_option maxHeartbeats 2000000 in
theorem opensOk_is (s l c sh : Int) (A : Option Addr) (n cap : Nat) (zs : List Int) (Q : Option Addr) (q qc : Nat) (os : List Opn) (w : World) (hm : n ≤ maxLen) (hr : Row w w.heap.size A n zs) (hq : q ≤ 4194304) (h : Quads w w.heap.size Q q os) :
    Calls Tryz.prog 45 #[.agg #[.int .i64 s, .int .i64 l, .int .i64 c, .int .i64 sh, .slice A n cap], .slice Q q qc] w fun e w' => e = .returned (.bool (opsB (opnB s l c sh zs) os)) ∧ Below w.heap.size w w' := by
  have HL := Lib.hid h.1
  have HQ := Lib.hid h
  have HR := Lib.hid hr
  have HM := Lib.hid hm
  clear h hr hm
  go_enter Tryz.func45, Tryz.ntmps45
  go_wp2_with fail
  go_loopw [9] (fun iv wr => ∃ k : Nat, k ≤ q ∧ iv = .int .i64 k ∧ (∀ j, j < k → stepB (opnB s l c sh zs) os j = true) ∧ Box wr w.heap.size 26 #[.int .i64 s, .int .i64 l, .int .i64 c, .int .i64 sh, .slice A n cap] ∧ Below w.heap.size w wr) (fun i _ => q - (intOf i).toNat)
  case atStart => exact ⟨0, Nat.zero_le _, rfl, fun j hj => absurd hj (by omega), Box.new w _ _, bel_alloc _ _⟩
  case round =>
    obtain ⟨k, hk, rfl, hst, G, hb⟩ := hrel
    by_cases hlt : k < q
    · obtain ⟨b, o, hA, hbB, hcell⟩ := HQ.out.2 (by omega)
      subst hA
      obtain ⟨g0, g1, g2, g3⟩ := hcell k hlt
      have g0 := (hb.cell (p := ⟨b, o + k * 4, none⟩) hbB).trans g0
      have g1 := (hb.cell (p := ⟨b, o + k * 4 + 1, none⟩) hbB).trans g1
      have g2 := (hb.cell (p := ⟨b, o + k * 4 + 2, none⟩) hbB).trans g2
      have g3 := (hb.cell (p := ⟨b, o + k * 4 + 3, none⟩) hbB).trans g3
      generalize hx : oth os k = x at g0 g1 g2 g3
      obtain ⟨x, t, y, v⟩ := x
      have HX := Lib.hid hx
      have hlt' : (k : Int) < (q : Int) := by omega
      replace hst := Lib.hid hst
      have hzb := hb.size
      have Y := Box.new wr 82 #[.int .i64 x, .int .i64 t, .int .i64 y, .int .i64 v]
      have hbY := bel_alloc wr (.cells #[.int .i64 x, .int .i64 t, .int .i64 y, .int .i64 v] 82)
      have G2 := G.later hbY G.lt
      have E2 := bel_trans hb hbY
      clear hx
      go_upto_region 4 with fail
      generalize (wr.alloc _ : World) = w2 at Y hbY G2 E2 ⊢
      generalize wr.heap.size = S at Y ⊢
      obtain ⟨f0, f1, f2, f3⟩ := quadA Y
      obtain ⟨e0, e1, e2, e3, e4⟩ := fiveAfter G2
      have hrow := Lib.hid ((HR.out.below E2 (Nat.le_refl _)).more E2.size)
      clear g0 g1 g2 g3 hb G
      rcases hR : opnB s l c sh zs (x, t, y, v) with _ | _
      · have HF : Hid (opsB (opnB s l c sh zs) os = false) := Lib.hid (opsB_false (k := k) (by rw [HL.out]; exact hlt) (by unfold stepB; rw [HX.out, hR]; rfl))
        have HRR := Lib.hid hR
        clear hR hcell
        refine wp_region_after (by kernel_rfl) (by kernel_rfl) ?_
        repeat (first | go_big_quiet_step ((go_at_call 85; exact after_of (isRightB_is HRR.out _ n cap _ HM.out (rowAfter hrow.out _)))) | quiet_step ((go_at_call 85; exact after_of (isRightB_is HRR.out _ n cap _ HM.out (rowAfter hrow.out _)))))
        refine wpQuiet_nil ?_
        intro pw
        go_wp2
        go_ret
        exact ⟨by rw [HF.out]; rfl, bel_trans E2 pw.bel⟩
      · have HRR := Lib.hid hR
        rcases k with _ | j
        · have hst2 := Lib.hid (show ∀ i, i < 0 + 1 → stepB (opnB s l c sh zs) os i = true from fun i hi => by
            obtain rfl : i = 0 := by omega
            unfold stepB; rw [HX.out, hR]; rfl)
          clear hR hcell
          refine wp_region_after (by kernel_rfl) (by kernel_rfl) ?_
          repeat (first | go_big_quiet_step ((go_at_call 85; exact after_of (isRightB_is HRR.out _ n cap _ HM.out (rowAfter hrow.out _)))) | quiet_step ((go_at_call 85; exact after_of (isRightB_is HRR.out _ n cap _ HM.out (rowAfter hrow.out _)))))
          refine wpQuiet_nil ?_
          intro pw
          have G3 := Lib.hid (G2.later pw.bel G2.lt)
          have E3 := Lib.hid (bel_trans E2 pw.bel)
          go_wp2
          go_roundw
          case rel => exact ⟨1, by omega, by go_num, hst2.out, G3.out, E3.out⟩
          case measure => simp [intOf]; omega
        · obtain ⟨p0, _, _, _⟩ := hcell j (by omega)
          have p0 := After.cell (w := w2) (a := ⟨b, o + j * 4, none⟩) (by show b < _; have := E2.size; omega) ((E2.cell (p := ⟨b, o + j * 4, none⟩) hbB).trans p0)
          have hxx : Hid (stepB (opnB s l c sh zs) os (j + 1) = decide ((oth os j).1 < x)) := Lib.hid (by unfold stepB; rw [HX.out, hR]; simp)
          generalize (oth os j).1 = z at p0 hxx
          have hj0 : (0 : Int) ≤ (j : Int) := by omega
          have hj1 : (j : Int) < (q : Int) := by omega
          have hjw : IntKind.i64.wrap ((j : Int) + 1 - 1) = (j : Int) := by rw [Int.add_sub_cancel]; exact IntWalk.i64_in _ (by omega)
          have hjw' : IntKind.i64.wrap (j : Int) = (j : Int) := IntWalk.i64_in _ (by omega)
          have hpos : (0 : Int) < (j : Int) + 1 := by omega
          clear hR hcell
          by_cases hz : z < x
          · have hst2 := Lib.hid (show ∀ i, i < j + 1 + 1 → stepB (opnB s l c sh zs) os i = true from fun i hi => by
              by_cases ei : i = j + 1
              · subst ei; rw [hxx.out]; exact decide_eq_true hz
              · exact hst.out i (by omega))
            have hz1 : decide (x ≤ z) = false := decide_eq_false (by omega)
            refine wp_region_after (by kernel_rfl) (by kernel_rfl) ?_
            repeat (first | go_big_quiet_step ((go_at_call 85; exact after_of (isRightB_is HRR.out _ n cap _ HM.out (rowAfter hrow.out _)))) | quiet_step ((go_at_call 85; exact after_of (isRightB_is HRR.out _ n cap _ HM.out (rowAfter hrow.out _)))))
            refine wpQuiet_nil ?_
            intro pw
            have G3 := Lib.hid (G2.later pw.bel G2.lt)
            have E3 := Lib.hid (bel_trans E2 pw.bel)
            clear hjw hjw' p0
            go_wp2
            go_roundw
            case rel => exact ⟨j + 1 + 1, by omega, by go_num, hst2.out, G3.out, E3.out⟩
            case measure => simp [intOf]; omega
          · have HF : Hid (opsB (opnB s l c sh zs) os = false) := Lib.hid (opsB_false (k := j + 1) (by rw [HL.out]; exact hlt) (by rw [hxx.out]; exact decide_eq_false hz))
            have hz1 : decide (x ≤ z) = true := decide_eq_true (by omega)
            refine wp_region_after (by kernel_rfl) (by kernel_rfl) ?_
            repeat (first | go_big_quiet_step ((go_at_call 85; exact after_of (isRightB_is HRR.out _ n cap _ HM.out (rowAfter hrow.out _)))) | quiet_step ((go_at_call 85; exact after_of (isRightB_is HRR.out _ n cap _ HM.out (rowAfter hrow.out _)))))
            refine wpQuiet_nil ?_
            intro pw
            clear hjw hjw' p0
            go_wp2
            go_ret
            exact ⟨by rw [HF.out]; rfl, bel_trans E2 pw.bel⟩
    · obtain rfl : k = q := by omega
      have HF : Hid (opsB (opnB s l c sh zs) os = true) := Lib.hid (opsB_true fun j hj => hst j (by rw [← HL.out]; exact hj))
      replace hst := Lib.hid hst
      go_wp2
      go_ret
      exact ⟨by rw [HF.out]; rfl, hb⟩

end Go.Proofs.YtghdnokjgmmgiaaGreat
