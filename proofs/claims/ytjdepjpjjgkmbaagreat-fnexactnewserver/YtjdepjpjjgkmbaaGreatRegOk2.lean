/- What RegOk's parts compute (the program's): an open that is right, opens in order, seals that are as they are left: contracts of each of them. -/
import Derived.Test.YtjdepjpjjgkmbaaGreatRegBase
import Derived.Test.YtjdepjpjjgkmbaaGreatProven
import Derived.Test.YtjdepjpjjgkmbaaGreatCert3
import Derived.Test.YtjdepjpjjgkmbaaGreatReg3
namespace Go.Proofs.YtjdepjpjjgkmbaaGreat
open Go.RowKit

/-- An open that is right. -/
def opnB (s l c sh : Int) (zs : List Int) (o : Opn) : Bool := cliB s l c sh zs o.1 && decide (o.2.2.1 = o.1) && decide (1 ≤ o.2.1) && stB o.2.1 o.2.2.1 && valB o.2.2.2
theorem opn_1 {s l c sh : Int} {zs : List Int} {k t y v : Int} (h : cliB s l c sh zs k = false) : opnB s l c sh zs (k, t, y, v) = false := by simp [opnB, h]
theorem opn_2 {s l c sh : Int} {zs : List Int} {k t y v : Int} (h : y ≠ k) : opnB s l c sh zs (k, t, y, v) = false := by simp [opnB, h]
theorem opn_3 {s l c sh : Int} {zs : List Int} {k t y v : Int} (h : ¬ 1 ≤ t) : opnB s l c sh zs (k, t, y, v) = false := by simp [opnB, h]
theorem opn_4 {s l c sh : Int} {zs : List Int} {k t y v : Int} (h : stB t y = false) : opnB s l c sh zs (k, t, y, v) = false := by simp [opnB, h]
theorem opn_5 {s l c sh : Int} {zs : List Int} {k t v : Int} (h1 : cliB s l c sh zs k = true) (h3 : 1 ≤ t) (h4 : stB t k = true) : opnB s l c sh zs (k, t, k, v) = valB v := by simp [opnB, h1, h3, h4]
/-- The open at place i is right, and of a later client than the one ahead of it. -/
def stepB (R : Opn → Bool) (os : List Opn) (i : Nat) : Bool := R (oth os i) && (decide (i = 0) || decide ((oth os (i - 1)).1 < (oth os i).1))
def opsB (R : Opn → Bool) (os : List Opn) : Bool := (List.range os.length).all (stepB R os)
theorem opsB_false {R : Opn → Bool} {os : List Opn} {k : Nat} (hk : k < os.length) (h : stepB R os k = false) : opsB R os = false := by
  unfold opsB
  rw [List.all_eq_false]
  exact ⟨k, List.mem_range.2 hk, by simp [h]⟩
theorem opsB_true {R : Opn → Bool} {os : List Opn} (h : ∀ j, j < os.length → stepB R os j = true) : opsB R os = true := by
  unfold opsB
  rw [List.all_eq_true]
  exact fun j hj => h j (List.mem_range.1 hj)

theorem isValR_is {x : Int} {b : Bool} (h : valB x = b) (w : World) : Calls Tryz.prog 225 #[.int .i64 x] w fun e w' => e = .returned (.bool b) ∧ w = w' := by
  subst h
  go_enter Tryz.func225, Tryz.ntmps225
  go_wp2_with (go_at_call 143; refine (within_any _ _ _ _).mono ?_; rintro e w' ⟨rfl, rfl⟩)
  go_ret
  exact ⟨rfl, rfl⟩
theorem clientR_is {s l c sh : Int} {zs : List Int} {x : Int} {b : Bool} (h : cliB s l c sh zs x = b) (A : Option Addr) (n cap : Nat) (w : World) (hm : n ≤ maxLen) (hr : Row w w.heap.size A n zs) :
    Calls Tryz.prog 224 #[.agg #[.int .i64 s, .int .i64 l, .int .i64 c, .int .i64 sh, .slice A n cap], .int .i64 x] w fun e w' => e = .returned (.bool b) ∧ Below w.heap.size w w' := h ▸ client_any s l c sh A n cap zs x w hm hr
theorem stampR_is {c k : Int} {b : Bool} (h : stB c k = b) (w : World) : Calls Tryz.prog 114 #[.agg #[.int .i64 c, .int .i64 k]] w fun e w' => e = .returned (.bool b) ∧ Below w.heap.size w w' := h ▸ stampOk_any c k w

set_option maxHeartbeats 1000000 in
theorem isRight_is (s l c sh : Int) (A : Option Addr) (n cap : Nat) (zs : List Int) (k t y v : Int) (w : World) (hm : n ≤ maxLen) (hr : Row w w.heap.size A n zs) :
    Calls Tryz.prog 191 #[.agg #[.int .i64 k, .int .i64 t, .int .i64 y, .int .i64 v], .agg #[.int .i64 s, .int .i64 l, .int .i64 c, .int .i64 sh, .slice A n cap]] w fun e w' => e = .returned (.bool (opnB s l c sh zs (k, t, y, v))) ∧ Below w.heap.size w w' := by
  have D := (Box.new w 97 #[.int .i64 k, .int .i64 t, .int .i64 y, .int .i64 v]).alloc (.cells #[.int .i64 s, .int .i64 l, .int .i64 c, .int .i64 sh, .slice A n cap] 26)
  have E := bel_trans (bel_alloc w (.cells #[.int .i64 k, .int .i64 t, .int .i64 y, .int .i64 v] 97)) (bel_alloc _ (.cells #[.int .i64 s, .int .i64 l, .int .i64 c, .int .i64 sh, .slice A n cap] 26))
  have HR := Lib.hid ((hr.below E (Nat.le_refl _)).more E.size)
  have HM := Lib.hid hm
  clear hr hm
  rcases hcl : cliB s l c sh zs k with _ | _
  · have HV := Lib.hid (opn_1 (t := t) (y := y) (v := v) hcl)
    have HC := Lib.hid hcl
    clear hcl
    go_enter Tryz.func191, Tryz.ntmps191
    go_wp2_with fail
    generalize ((w.alloc _).alloc _ : World) = w0 at D E HR ⊢
    refine (clientR_is HC.out A n cap w0 HM.out HR.out).mono ?_
    rintro e w1 ⟨rfl, hb1⟩
    go_wp2
    go_ret
    exact ⟨by rw [HV.out]; rfl, bel_trans E hb1⟩
  · have HC := Lib.hid hcl
    clear hcl
    go_enter Tryz.func191, Tryz.ntmps191
    go_wp2_with fail
    generalize ((w.alloc _).alloc _ : World) = w0 at D E HR ⊢
    refine (clientR_is HC.out A n cap w0 HM.out HR.out).mono ?_
    rintro e w1 ⟨rfl, hb1⟩
    have D1 := D.later hb1 D.lt
    have E1 := bel_trans E hb1
    clear D E HR hb1
    obtain ⟨d0, d1, d2, d3⟩ := D1.four
    by_cases h2 : y = k
    · subst h2
      by_cases h3 : 1 ≤ t
      · rcases h4 : stB t y with _ | _
        · have HV := Lib.hid (opn_4 (s := s) (l := l) (c := c) (sh := sh) (zs := zs) (k := y) (v := v) h4)
          have H4 := Lib.hid h4
          clear h4
          go_wp2_with (go_at_call 114; refine (stampR_is H4.out _).mono ?_; rintro e w2 ⟨rfl, hb2⟩; have E2 := bel_trans E1 hb2)
          go_ret
          exact ⟨by rw [HV.out]; rfl, E2⟩
        · have HV := Lib.hid (opn_5 (v := v) HC.out h3 h4)
          have H4 := Lib.hid h4
          clear h4
          rcases h5 : valB v with _ | _
          all_goals
            have H5 := Lib.hid h5
            clear h5
            go_wp2_with fail
            refine (stampR_is H4.out w1).mono ?_
            rintro e w2 ⟨rfl, hb2⟩
            have E2 := bel_trans E1 hb2
            have D2 := D1.later hb2 D1.lt
            have c3 : w2.cell? ⟨w.heap.size, 3, none⟩ = some (.int .i64 v) := D2.cell 3
            clear D2 hb2
            go_wp2_with (go_at_call 225; refine (isValR_is H5.out _).mono ?_; rintro e w3 ⟨rfl, rfl⟩)
            go_ret
            exact ⟨by rw [HV.out, H5.out]; rfl, E2⟩
      · have HV := Lib.hid (opn_3 (s := s) (l := l) (c := c) (sh := sh) (zs := zs) (k := y) (y := y) (v := v) h3)
        go_wp2
        go_ret
        exact ⟨by rw [HV.out]; rfl, E1⟩
    · have h2' : (y == k) = false := by simpa using h2
      have HV := Lib.hid (opn_2 (s := s) (l := l) (c := c) (sh := sh) (zs := zs) (t := t) (v := v) h2)
      go_wp2
      go_ret
      exact ⟨by rw [HV.out]; rfl, E1⟩
theorem isRightB_is {s l c sh : Int} {zs : List Int} {k t y v : Int} {b : Bool} (h : opnB s l c sh zs (k, t, y, v) = b) (A : Option Addr) (n cap : Nat) (w : World) (hm : n ≤ maxLen) (hr : Row w w.heap.size A n zs) :
    Calls Tryz.prog 191 #[.agg #[.int .i64 k, .int .i64 t, .int .i64 y, .int .i64 v], .agg #[.int .i64 s, .int .i64 l, .int .i64 c, .int .i64 sh, .slice A n cap]] w fun e w' => e = .returned (.bool b) ∧ Below w.heap.size w w' := h ▸ isRight_is s l c sh A n cap zs k t y v w hm hr

theorem quadA {w : World} {g : Nat} {t : TypeId} {v0 v1 v2 v3 : Value} (h : Box w g t #[v0, v1, v2, v3]) :
    (∀ p : After w, p.x.cell? ⟨g, 0, none⟩ = some v0) ∧ (∀ p : After w, p.x.cell? ⟨g, 1, none⟩ = some v1) ∧ (∀ p : After w, p.x.cell? ⟨g, 2, none⟩ = some v2) ∧ (∀ p : After w, p.x.cell? ⟨g, 3, none⟩ = some v3) :=
  ⟨After.cell h.lt (h.cell 0), After.cell h.lt (h.cell 1), After.cell h.lt (h.cell 2), After.cell h.lt (h.cell 3)⟩

set_option maxRecDepth 100000 in
set_option maxHeartbeats 2000000 in
theorem opensOk_is (s l c sh : Int) (A : Option Addr) (n cap : Nat) (zs : List Int) (Q : Option Addr) (q qc : Nat) (os : List Opn) (w : World) (hm : n ≤ maxLen) (hr : Row w w.heap.size A n zs) (hq : q ≤ 4194304) (h : Quads w w.heap.size Q q os) :
    Calls Tryz.prog 201 #[.agg #[.int .i64 s, .int .i64 l, .int .i64 c, .int .i64 sh, .slice A n cap], .slice Q q qc] w fun e w' => e = .returned (.bool (opsB (opnB s l c sh zs) os)) ∧ Below w.heap.size w w' := by
  have HL := Lib.hid h.1
  have HQ := Lib.hid h
  have HR := Lib.hid hr
  have HM := Lib.hid hm
  clear h hr hm
  go_enter Tryz.func201, Tryz.ntmps201
  go_wp2_with fail
  go_loopw [9] (fun iv wr => ∃ k : Nat, k ≤ q ∧ iv = .int .i64 k ∧ (∀ j, j < k → stepB (opnB s l c sh zs) os j = true) ∧ Box wr w.heap.size 26 #[.int .i64 s, .int .i64 l, .int .i64 c, .int .i64 sh, .slice A n cap] ∧ Below w.heap.size w wr) (fun i _ => q - (intOf i).toNat)
  case atStart => exact ⟨0, Nat.zero_le _, rfl, fun j hj => absurd hj (by omega), Box.new w _ _, bel_alloc _ _⟩
  case round =>
    obtain ⟨k, hk, rfl, hst, G, hb⟩ := hrel
    by_cases hlt : k < q
    · obtain ⟨b, o, hA, hbB, hcell⟩ := HQ.out.2 (by omega)
      subst hA
      obtain ⟨g0, g1, g2, g3⟩ := hcell k hlt
      have g0 := (hb.cell (p := ⟨b, o + k * 4, none⟩) hbB).trans g0
      have g1 := (hb.cell (p := ⟨b, o + k * 4 + 1, none⟩) hbB).trans g1
      have g2 := (hb.cell (p := ⟨b, o + k * 4 + 2, none⟩) hbB).trans g2
      have g3 := (hb.cell (p := ⟨b, o + k * 4 + 3, none⟩) hbB).trans g3
      generalize hx : oth os k = x at g0 g1 g2 g3
      obtain ⟨x, t, y, v⟩ := x
      have HX := Lib.hid hx
      have hlt' : (k : Int) < (q : Int) := by omega
      replace hst := Lib.hid hst
      have hzb := hb.size
      have Y := Box.new wr 97 #[.int .i64 x, .int .i64 t, .int .i64 y, .int .i64 v]
      have hbY := bel_alloc wr (.cells #[.int .i64 x, .int .i64 t, .int .i64 y, .int .i64 v] 97)
      have G2 := G.later hbY G.lt
      have E2 := bel_trans hb hbY
      clear hx
      go_upto_region 4 with fail
      generalize (wr.alloc _ : World) = w2 at Y hbY G2 E2 ⊢
      generalize wr.heap.size = S at Y ⊢
      obtain ⟨f0, f1, f2, f3⟩ := quadA Y
      obtain ⟨e0, e1, e2, e3, e4⟩ := fiveAfter G2
      have hrow := Lib.hid ((HR.out.below E2 (Nat.le_refl _)).more E2.size)
      clear g0 g1 g2 g3 hb G
      rcases hR : opnB s l c sh zs (x, t, y, v) with _ | _
      · have HF : Hid (opsB (opnB s l c sh zs) os = false) := Lib.hid (opsB_false (k := k) (by rw [HL.out]; exact hlt) (by unfold stepB; rw [HX.out, hR]; rfl))
        have HRR := Lib.hid hR
        clear hR hcell
        refine wp_region_after (by kernel_rfl) (by kernel_rfl) ?_
        repeat (first | go_big_quiet_step ((go_at_call 191; exact after_of (isRightB_is HRR.out _ n cap _ HM.out (rowAfter hrow.out _)))) | quiet_step ((go_at_call 191; exact after_of (isRightB_is HRR.out _ n cap _ HM.out (rowAfter hrow.out _)))))
        refine wpQuiet_nil ?_
        intro pw
        go_wp2
        go_ret
        exact ⟨by rw [HF.out]; rfl, bel_trans E2 pw.bel⟩
      · have HRR := Lib.hid hR
        rcases k with _ | j
        · have hst2 := Lib.hid (show ∀ i, i < 0 + 1 → stepB (opnB s l c sh zs) os i = true from fun i hi => by
            obtain rfl : i = 0 := by omega
            unfold stepB; rw [HX.out, hR]; rfl)
          clear hR hcell
          refine wp_region_after (by kernel_rfl) (by kernel_rfl) ?_
          repeat (first | go_big_quiet_step ((go_at_call 191; exact after_of (isRightB_is HRR.out _ n cap _ HM.out (rowAfter hrow.out _)))) | quiet_step ((go_at_call 191; exact after_of (isRightB_is HRR.out _ n cap _ HM.out (rowAfter hrow.out _)))))
          refine wpQuiet_nil ?_
          intro pw
          have G3 := Lib.hid (G2.later pw.bel G2.lt)
          have E3 := Lib.hid (bel_trans E2 pw.bel)
          go_wp2
          go_roundw
          case rel => exact ⟨1, by omega, by go_num, hst2.out, G3.out, E3.out⟩
          case measure => simp [intOf]; omega
        · obtain ⟨p0, _, _, _⟩ := hcell j (by omega)
          have p0 := After.cell (w := w2) (a := ⟨b, o + j * 4, none⟩) (by show b < _; have := E2.size; omega) ((E2.cell (p := ⟨b, o + j * 4, none⟩) hbB).trans p0)
          have hxx : Hid (stepB (opnB s l c sh zs) os (j + 1) = decide ((oth os j).1 < x)) := Lib.hid (by unfold stepB; rw [HX.out, hR]; simp)
          generalize (oth os j).1 = z at p0 hxx
          have hj0 : (0 : Int) ≤ (j : Int) := by omega
          have hj1 : (j : Int) < (q : Int) := by omega
          have hjw : IntKind.i64.wrap ((j : Int) + 1 - 1) = (j : Int) := by rw [Int.add_sub_cancel]; exact IntWalk.i64_in _ (by omega)
          have hjw' : IntKind.i64.wrap (j : Int) = (j : Int) := IntWalk.i64_in _ (by omega)
          have hpos : (0 : Int) < (j : Int) + 1 := by omega
          clear hR hcell
          by_cases hz : z < x
          · have hst2 := Lib.hid (show ∀ i, i < j + 1 + 1 → stepB (opnB s l c sh zs) os i = true from fun i hi => by
              by_cases ei : i = j + 1
              · subst ei; rw [hxx.out]; exact decide_eq_true hz
              · exact hst.out i (by omega))
            have hz1 : decide (x ≤ z) = false := decide_eq_false (by omega)
            refine wp_region_after (by kernel_rfl) (by kernel_rfl) ?_
            repeat (first | go_big_quiet_step ((go_at_call 191; exact after_of (isRightB_is HRR.out _ n cap _ HM.out (rowAfter hrow.out _)))) | quiet_step ((go_at_call 191; exact after_of (isRightB_is HRR.out _ n cap _ HM.out (rowAfter hrow.out _)))))
            refine wpQuiet_nil ?_
            intro pw
            have G3 := Lib.hid (G2.later pw.bel G2.lt)
            have E3 := Lib.hid (bel_trans E2 pw.bel)
            clear hjw hjw' p0
            go_wp2
            go_roundw
            case rel => exact ⟨j + 1 + 1, by omega, by go_num, hst2.out, G3.out, E3.out⟩
            case measure => simp [intOf]; omega
          · have HF : Hid (opsB (opnB s l c sh zs) os = false) := Lib.hid (opsB_false (k := j + 1) (by rw [HL.out]; exact hlt) (by rw [hxx.out]; exact decide_eq_false hz))
            have hz1 : decide (x ≤ z) = true := decide_eq_true (by omega)
            refine wp_region_after (by kernel_rfl) (by kernel_rfl) ?_
            repeat (first | go_big_quiet_step ((go_at_call 191; exact after_of (isRightB_is HRR.out _ n cap _ HM.out (rowAfter hrow.out _)))) | quiet_step ((go_at_call 191; exact after_of (isRightB_is HRR.out _ n cap _ HM.out (rowAfter hrow.out _)))))
            refine wpQuiet_nil ?_
            intro pw
            clear hjw hjw' p0
            go_wp2
            go_ret
            exact ⟨by rw [HF.out]; rfl, bel_trans E2 pw.bel⟩
    · obtain rfl : k = q := by omega
      have HF : Hid (opsB (opnB s l c sh zs) os = true) := Lib.hid (opsB_true fun j hj => hst j (by rw [← HL.out]; exact hj))
      replace hst := Lib.hid hst
      go_wp2
      go_ret
      exact ⟨by rw [HF.out]; rfl, hb⟩

end Go.Proofs.YtjdepjpjjgkmbaaGreat

/- RegOk: seals compared, the seals that are left good, a shelf that is right: contracts of the program's functions. -/
namespace Go.Proofs.YtjdepjpjjgkmbaaGreat
open Go.RowKit

theorem pth_ext {ps qs : List (Int × Int)} (hl : ps.length = qs.length) (h : ∀ j, j < ps.length → pth ps j = pth qs j) : ps = qs := by
  refine List.ext_getElem hl fun i h1 h2 => ?_
  have := h i h1
  rwa [pth_lt h1, pth_lt h2] at this

set_option maxHeartbeats 2000000 in
theorem equal_is (A A' : Option Addr) (n cap n' cap' : Nat) (ps qs : List (Int × Int)) (w : World) (hm : n ≤ 4194304) (hm' : n' ≤ 4194304) (hr : Pairs w w.heap.size A n ps) (hr' : Pairs w w.heap.size A' n' qs) :
    Calls Tryz.prog 226 #[.slice A n cap, .slice A' n' cap'] w fun e w' => e = .returned (.bool (decide (ps = qs))) ∧ Below w.heap.size w w' := by
  by_cases hnn : n = n'
  · subst hnn
    have HL := Lib.hid hr.1
    have HL' := Lib.hid hr'.1
    have HR := Lib.hid hr
    have HR' := Lib.hid hr'
    clear hr hr'
    go_enter Tryz.func226, Tryz.ntmps226
    go_wp2_with fail
    go_loopw [13] (fun i wr => ∃ k : Nat, k ≤ n ∧ i = .int .i64 k ∧ (∀ j, j < k → pth ps j = pth qs j) ∧ Below w.heap.size w wr) (fun i _ => n - (intOf i).toNat)
    case atStart => exact ⟨0, Nat.zero_le _, rfl, fun j hj => absurd hj (by omega), Below.refl _ _⟩
    case round =>
      obtain ⟨k, hk, rfl, heq, hb⟩ := hrel
      by_cases hlt : k < n
      · obtain ⟨b, o, hA, hbB, hcell⟩ := HR.out.2 (by omega)
        obtain ⟨b', o', hA', hbB', hcell'⟩ := HR'.out.2 (by omega)
        subst hA hA'
        obtain ⟨g0, g1⟩ := hcell k hlt
        obtain ⟨h0, h1⟩ := hcell' k hlt
        have hz := hb.size
        have g0 := After.cell (w := wr) (a := ⟨b, o + k * 2, none⟩) (by simp; omega) ((hb.cell (p := ⟨b, o + k * 2, none⟩) hbB).trans g0)
        have g1 := After.cell (w := wr) (a := ⟨b, o + k * 2 + 1, none⟩) (by simp; omega) ((hb.cell (p := ⟨b, o + k * 2 + 1, none⟩) hbB).trans g1)
        have h0 := After.cell (w := wr) (a := ⟨b', o' + k * 2, none⟩) (by simp; omega) ((hb.cell (p := ⟨b', o' + k * 2, none⟩) hbB').trans h0)
        have h1 := After.cell (w := wr) (a := ⟨b', o' + k * 2 + 1, none⟩) (by simp; omega) ((hb.cell (p := ⟨b', o' + k * 2 + 1, none⟩) hbB').trans h1)
        generalize hx : pth ps k = x at g0 g1
        generalize hy : pth qs k = y at h0 h1
        obtain ⟨x, x'⟩ := x
        obtain ⟨y, y'⟩ := y
        have HX := Lib.hid hx
        have HY := Lib.hid hy
        replace heq := Lib.hid heq
        have hlt' : (k : Int) < (n : Int) := by omega
        clear hcell hcell' hx hy
        by_cases e1 : x = y
        · subst e1
          by_cases e2 : x' = y'
          · subst e2
            have hst := Lib.hid (show ∀ j, j < k + 1 → pth ps j = pth qs j from fun j hj => by
              by_cases ej : j = k
              · subst ej; rw [HX.out, HY.out]
              · exact heq.out j (by omega))
            go_wp2_with fail
            refine wp_region_after (by kernel_rfl) (by kernel_rfl) ?_
            repeat (first | go_big_quiet_step (fail) | quiet_step (fail))
            refine wpQuiet_nil ?_
            intro pw
            have E3 := bel_trans hb pw.bel
            go_wp2
            go_roundw
            case rel => exact ⟨k + 1, by omega, by go_num, hst.out, E3⟩
            case measure => simp [intOf]; omega
          · have e2' : (x' == y') = false := by simpa using e2
            have HF : Hid (decide (ps = qs) = false) := Lib.hid (decide_eq_false fun h => e2 (by have a := HX.out; rw [h, HY.out] at a; injection a with _ a; exact a.symm))
            go_wp2_with fail
            refine wp_region_after (by kernel_rfl) (by kernel_rfl) ?_
            repeat (first | go_big_quiet_step (fail) | quiet_step (fail))
            refine wpQuiet_nil ?_
            intro pw
            have E3 := bel_trans hb pw.bel
            go_wp2
            go_ret
            exact ⟨by rw [HF.out]; rfl, E3⟩
        · have e1' : (x == y) = false := by simpa using e1
          have HF : Hid (decide (ps = qs) = false) := Lib.hid (decide_eq_false fun h => e1 (by have a := HX.out; rw [h, HY.out] at a; injection a with a _; exact a.symm))
          go_wp2_with fail
          refine wp_region_after (by kernel_rfl) (by kernel_rfl) ?_
          repeat (first | go_big_quiet_step (fail) | quiet_step (fail))
          refine wpQuiet_nil ?_
          intro pw
          have E3 := bel_trans hb pw.bel
          go_wp2
          go_ret
          exact ⟨by rw [HF.out]; rfl, E3⟩
      · obtain rfl : k = n := by omega
        have HF : Hid (decide (ps = qs) = true) := Lib.hid (decide_eq_true (pth_ext (by rw [HL.out, HL'.out]) fun j hj => heq j (by rw [← HL.out]; exact hj)))
        replace heq := Lib.hid heq
        go_wp2
        go_ret
        exact ⟨by rw [HF.out]; rfl, hb⟩
  · have hne : ((n : Int) != (n' : Int)) = true := by simp; omega
    have HF : Hid (decide (ps = qs) = false) := Lib.hid (decide_eq_false fun h => hnn (by rw [← hr.1, ← hr'.1, h]))
    clear hr hr'
    go_enter Tryz.func226, Tryz.ntmps226
    go_wp2
    go_ret
    exact ⟨by rw [HF.out]; rfl, Below.refl _ _⟩

/-- The seals that are left good beside a stamp: none beside the zero one. -/
def lefS (s l c sh : Int) (zs : List Int) (x ct cq v : Int) (ps : List (Int × Int)) : List (Int × Int) := if ct = 0 ∧ cq = 0 then [] else goodP (rB s l c sh zs 1 x ct cq v) ps
theorem lefS_le (s l c sh : Int) (zs : List Int) (x ct cq v : Int) (ps : List (Int × Int)) : (lefS s l c sh zs x ct cq v ps).length ≤ ps.length := by
  unfold lefS
  split
  · simp
  · exact goodP_le _ _
theorem zero_cases (ct cq : Int) : (ct = 0 ∧ cq = 0) ∨ ((ct == 0) = false ∨ ((ct == 0) = true ∧ (cq == 0) = false)) ∧ ¬ (ct = 0 ∧ cq = 0) := by
  by_cases h1 : ct = 0
  · by_cases h2 : cq = 0
    · exact .inl ⟨h1, h2⟩
    · exact .inr ⟨.inr ⟨by simpa using h1, by simpa using h2⟩, fun h => h2 h.2⟩
  · exact .inr ⟨.inl (by simpa using h1), fun h => h1 h.1⟩

set_option maxRecDepth 100000 in
set_option maxHeartbeats 2000000 in
theorem leftSeals_is (s l c sh : Int) (A : Option Addr) (n cap : Nat) (zs : List Int) (x ct cq v : Int) (P : Option Addr) (m pcap : Nat) (ps : List (Int × Int)) (w : World) (hm : n ≤ maxLen) (hr : Row w w.heap.size A n zs) (hn : m ≤ 4194304) (h : Pairs w w.heap.size P m ps) :
    Calls Tryz.prog 227 #[.agg #[.int .i64 ct, .int .i64 cq, .int .i64 v, .slice P m pcap], .agg #[.int .i64 s, .int .i64 l, .int .i64 c, .int .i64 sh, .slice A n cap], .int .i64 x] w fun e w' => ∃ u, e = .returned u ∧ Own w u (lefS s l c sh zs x ct cq v ps) w' := by
  have D := (Box.new w 199 #[.int .i64 ct, .int .i64 cq, .int .i64 v, .slice P m pcap]).alloc (.cells #[.int .i64 s, .int .i64 l, .int .i64 c, .int .i64 sh, .slice A n cap] 26)
  have G := Box.new (w.alloc (.cells #[.int .i64 ct, .int .i64 cq, .int .i64 v, .slice P m pcap] 199)) 26 #[.int .i64 s, .int .i64 l, .int .i64 c, .int .i64 sh, .slice A n cap]
  have E := bel_trans (bel_alloc w (.cells #[.int .i64 ct, .int .i64 cq, .int .i64 v, .slice P m pcap] 199)) (bel_alloc _ (.cells #[.int .i64 s, .int .i64 l, .int .i64 c, .int .i64 sh, .slice A n cap] 26))
  simp only [World.size_alloc] at G
  have HR := Lib.hid ((hr.below E (Nat.le_refl _)).more E.size)
  have HP := Lib.hid (h.later E)
  have HM := Lib.hid hm
  clear hr hm h
  rcases zero_cases ct cq with ⟨rfl, rfl⟩ | ⟨hcase, hnz⟩
  · have HV : Hid (lefS s l c sh zs x 0 0 v ps = []) := Lib.hid (by simp [lefS])
    go_enter Tryz.func227, Tryz.ntmps227
    go_wp2
    go_ret
    exact ⟨_, rfl, .inl ⟨rfl, HV.out⟩, E⟩
  · have HV : Hid (lefS s l c sh zs x ct cq v ps = goodP (rB s l c sh zs 1 x ct cq v) ps) := Lib.hid (by unfold lefS; rw [if_neg hnz])
    clear hnz
    rcases hcase with h1 | ⟨h1, h2⟩
    all_goals
      go_enter Tryz.func227, Tryz.ntmps227
      go_wp2_with fail
      generalize ((w.alloc _).alloc _ : World) = w0 at D G E HR HP ⊢
      refine (good_is s l c sh A n cap zs 1 x ct cq v P m pcap ps w0 HM.out HR.out hn HP.out).mono ?_
      rintro e w1 ⟨u, rfl, hO⟩
      go_wp2
      go_ret
      rw [HV.out]
      exact ⟨_, rfl, by
        rcases hO.1 with hh | ⟨g, cap2, hg, hu, h1, h2, hh⟩
        · exact .inl hh
        · exact .inr ⟨g, cap2, Nat.le_trans E.size hg, hu, h1, h2, hh⟩, bel_trans E hO.2⟩

/-- Is what is newest as it is left? -/
def lefB (s l c sh : Int) (zs : List Int) (x ct cq v : Int) (ps : List (Int × Int)) : Bool := proB s l c sh zs x ct cq v ps && decide (ps = lefS s l c sh zs x ct cq v ps)
theorem provenR_is {s l c sh : Int} {zs : List Int} {x ct cq v : Int} {ps : List (Int × Int)} {b : Bool} (hb : proB s l c sh zs x ct cq v ps = b) (A : Option Addr) (n cap : Nat) (P : Option Addr) (m pcap : Nat) (w : World) (hm : n ≤ maxLen) (hr : Row w w.heap.size A n zs) (hn : m ≤ 4194304) (h : Pairs w w.heap.size P m ps) :
    Calls Tryz.prog 209 #[.agg #[.int .i64 s, .int .i64 l, .int .i64 c, .int .i64 sh, .slice A n cap], .int .i64 x, .agg #[.int .i64 ct, .int .i64 cq], .int .i64 v, .slice P m pcap] w fun e w' => e = .returned (.bool b) ∧ Below w.heap.size w w' := hb ▸ proven_is s l c sh A n cap zs x ct cq v P m pcap ps w hm hr hn h
theorem Own.prs {w w' : World} {u : Value} {ps : List (Int × Int)} (h : Own w u ps w') : ∃ (A : Option Addr) (n cap : Nat), u = .slice A n cap ∧ Pairs w' w'.heap.size A n ps := by
  rcases h.1 with ⟨rfl, rfl⟩ | ⟨g, cap, _, rfl, _, _, hh⟩
  · exact ⟨none, 0, 0, rfl, ⟨rfl, fun h => absurd h (by omega)⟩⟩
  · exact ⟨_, _, cap, rfl, hh.pairs⟩

theorem nineGD {w : World} {g g' : Nat} {t t' : TypeId} {v0 v1 v2 v3 v4 u0 u1 u2 u3 : Value} (h : Box w g t #[v0, v1, v2, v3, v4]) (h' : Box w g' t' #[u0, u1, u2, u3]) :
    w.cell? ⟨g, 0, none⟩ = some v0 ∧ w.cell? ⟨g, 1, none⟩ = some v1 ∧ w.cell? ⟨g, 2, none⟩ = some v2 ∧ w.cell? ⟨g, 3, none⟩ = some v3 ∧ w.cell? ⟨g, 4, none⟩ = some v4 ∧ w.cell? ⟨g', 0, none⟩ = some u0 ∧ w.cell? ⟨g', 1, none⟩ = some u1 ∧ w.cell? ⟨g', 2, none⟩ = some u2 ∧ w.cell? ⟨g', 3, none⟩ = some u3 :=
  ⟨h.cell 0, h.cell 1, h.cell 2, h.cell 3, h.cell 4, h'.cell 0, h'.cell 1, h'.cell 2, h'.cell 3⟩

set_option maxRecDepth 100000 in
set_option maxHeartbeats 2000000 in
theorem isLeft_is (s l c sh : Int) (A : Option Addr) (n cap : Nat) (zs : List Int) (x ct cq v : Int) (P : Option Addr) (m pcap : Nat) (ps : List (Int × Int)) (w : World) (hm : n ≤ maxLen) (hr : Row w w.heap.size A n zs) (hn : m ≤ 4194304) (h : Pairs w w.heap.size P m ps) :
    Calls Tryz.prog 193 #[.agg #[.int .i64 ct, .int .i64 cq, .int .i64 v, .slice P m pcap], .agg #[.int .i64 s, .int .i64 l, .int .i64 c, .int .i64 sh, .slice A n cap], .int .i64 x] w fun e w' => e = .returned (.bool (lefB s l c sh zs x ct cq v ps)) ∧ Below w.heap.size w w' := by
  have D := (Box.new w 199 #[.int .i64 ct, .int .i64 cq, .int .i64 v, .slice P m pcap]).alloc (.cells #[.int .i64 s, .int .i64 l, .int .i64 c, .int .i64 sh, .slice A n cap] 26)
  have G := Box.new (w.alloc (.cells #[.int .i64 ct, .int .i64 cq, .int .i64 v, .slice P m pcap] 199)) 26 #[.int .i64 s, .int .i64 l, .int .i64 c, .int .i64 sh, .slice A n cap]
  have E := bel_trans (bel_alloc w (.cells #[.int .i64 ct, .int .i64 cq, .int .i64 v, .slice P m pcap] 199)) (bel_alloc _ (.cells #[.int .i64 s, .int .i64 l, .int .i64 c, .int .i64 sh, .slice A n cap] 26))
  simp only [World.size_alloc] at G
  have R0 := (hr.below E (Nat.le_refl _)).more E.size
  have P0 := h.later E
  have hlen : (lefS s l c sh zs x ct cq v ps).length ≤ 4194304 := by have := lefS_le s l c sh zs x ct cq v ps; rw [h.1] at this; omega
  replace hlen := Lib.hid hlen
  have HM := Lib.hid hm
  clear hr hm h
  go_enter Tryz.func193, Tryz.ntmps193
  go_wp2_with fail
  generalize ((w.alloc _).alloc _ : World) = w0 at D G E R0 P0 ⊢
  rcases hpv : proB s l c sh zs x ct cq v ps with _ | _
  · have HV : Hid (lefB s l c sh zs x ct cq v ps = false) := Lib.hid (by simp [lefB, hpv])
    have HPV := Lib.hid hpv
    have HR := Lib.hid R0
    have HP := Lib.hid P0
    clear hpv R0 P0
    obtain ⟨f0, f1, f2, f3⟩ := quadA D
    obtain ⟨e0, e1, e2, e3, e4⟩ := fiveAfter G
    refine wp_region_after (by kernel_rfl) (by kernel_rfl) ?_
    repeat (first | go_big_quiet_step ((go_at_call 209; exact after_of (provenR_is HPV.out _ n cap _ m pcap _ HM.out (rowAfter HR.out _) hn (pairsAfter HP.out _)))) | quiet_step ((go_at_call 209; exact after_of (provenR_is HPV.out _ n cap _ m pcap _ HM.out (rowAfter HR.out _) hn (pairsAfter HP.out _)))))
    refine wpQuiet_nil ?_
    intro pw
    go_wp2
    go_ret
    exact ⟨by rw [HV.out]; rfl, bel_trans E pw.bel⟩
  · have HV : Hid (lefB s l c sh zs x ct cq v ps = decide (ps = lefS s l c sh zs x ct cq v ps)) := Lib.hid (by simp [lefB, hpv])
    have HPV := Lib.hid hpv
    clear hpv
    obtain ⟨d0, d1, d2, d3⟩ := D.four
    obtain ⟨e0, e1, e2, e3, e4⟩ := G.five
    go_region_held3 (fun w' => w'.cell? ⟨w.heap.size + 1, 0, none⟩ = some (.int .i64 s) ∧ w'.cell? ⟨w.heap.size + 1, 1, none⟩ = some (.int .i64 l) ∧ w'.cell? ⟨w.heap.size + 1, 2, none⟩ = some (.int .i64 c) ∧ w'.cell? ⟨w.heap.size + 1, 3, none⟩ = some (.int .i64 sh) ∧ w'.cell? ⟨w.heap.size + 1, 4, none⟩ = some (.slice A n cap) ∧ w'.cell? ⟨w.heap.size, 0, none⟩ = some (.int .i64 ct) ∧ w'.cell? ⟨w.heap.size, 1, none⟩ = some (.int .i64 cq) ∧ w'.cell? ⟨w.heap.size, 2, none⟩ = some (.int .i64 v) ∧ w'.cell? ⟨w.heap.size, 3, none⟩ = some (.slice P m pcap))
      (first | (with_reducible exact K3) | (with_reducible exact K2) | (with_reducible exact K1) | go_keep)
      (first
        | (go_at_call 209; refine (provenR_is HPV.out A n cap P m pcap _ HM.out ?_ hn ?_).mono ?_; exact R0; exact P0; rintro e w1 ⟨rfl, hb1⟩; have F1 := bel_drew' hb1; have R1 := (R0.below F1 (Nat.le_refl _)).more F1.size; have P1 := P0.later F1; have K1 := nineGD (G.later F1 G.lt) (D.later F1 D.lt))
        | (go_at_call 227; refine (leftSeals_is s l c sh A n cap zs x ct cq v P m pcap ps _ HM.out R1 hn P1).mono ?_; rintro e w2 ⟨u, rfl, hO2⟩; obtain ⟨A2, n2, c2, rfl, Q2⟩ := hO2.prs; have F2 := bel_trans F1 hO2.2; have P2 := P1.later hO2.2; have K2 := nineGD (G.later F2 G.lt) (D.later F2 D.lt); have hn2 : n2 ≤ 4194304 := (by rw [← Q2.1]; exact hlen.out))
        | (go_at_call 226; refine (equal_is P A2 m pcap n2 c2 ps _ _ hn hn2 P2 Q2).mono ?_; rintro e w3 ⟨rfl, hb3⟩; have F3 := bel_trans F2 hb3; have K3 := nineGD (G.later F3 G.lt) (D.later F3 D.lt)))
    have E3 := bel_trans E F3
    clear K1 K2 K3 d0 d1 d2 d3 e0 e1 e2 e3 e4
    go_wp2
    go_ret
    exact ⟨by rw [HV.out]; rfl, E3⟩

/-- What RegOk answers. -/
def regB (s l c sh : Int) (zs : List Int) (x ct cq v : Int) (ps : List (Int × Int)) (os : List Opn) : Bool := lefB s l c sh zs x ct cq v ps && opsB (opnB s l c sh zs) os

theorem isLeftB_is {s l c sh : Int} {zs : List Int} {x ct cq v : Int} {ps : List (Int × Int)} {b : Bool} (hb : lefB s l c sh zs x ct cq v ps = b) (A : Option Addr) (n cap : Nat) (P : Option Addr) (m pcap : Nat) (w : World) (hm : n ≤ maxLen) (hr : Row w w.heap.size A n zs) (hn : m ≤ 4194304) (h : Pairs w w.heap.size P m ps) :
    Calls Tryz.prog 193 #[.agg #[.int .i64 ct, .int .i64 cq, .int .i64 v, .slice P m pcap], .agg #[.int .i64 s, .int .i64 l, .int .i64 c, .int .i64 sh, .slice A n cap], .int .i64 x] w fun e w' => e = .returned (.bool b) ∧ Below w.heap.size w w' := hb ▸ isLeft_is s l c sh A n cap zs x ct cq v P m pcap ps w hm hr hn h

set_option maxRecDepth 100000 in
set_option maxHeartbeats 2000000 in
theorem regOk_is (s l c sh : Int) (A : Option Addr) (n cap : Nat) (zs : List Int) (x rt rq rv : Int) (P : Option Addr) (p pc : Nat) (Q : Option Addr) (q qc : Nat) (ps : List (Int × Int)) (os : List Opn) (w : World) (hm : n ≤ maxLen) (hr : Row w w.heap.size A n zs) (hp : p ≤ 4194304) (hq : q ≤ 4194304) (h1 : Pairs w w.heap.size P p ps) (h2 : Quads w w.heap.size Q q os) :
    Calls Tryz.prog 155 #[.agg #[.int .i64 s, .int .i64 l, .int .i64 c, .int .i64 sh, .slice A n cap], .int .i64 x, .agg #[.int .i64 rt, .int .i64 rq, .int .i64 rv, .slice P p pc, .slice Q q qc]] w fun e w' => e = .returned (.bool (regB s l c sh zs x rt rq rv ps os)) ∧ Below w.heap.size w w' := by
  have G := (Box.new w 26 #[.int .i64 s, .int .i64 l, .int .i64 c, .int .i64 sh, .slice A n cap]).alloc (.cells #[.int .i64 rt, .int .i64 rq, .int .i64 rv, .slice P p pc, .slice Q q qc] 80)
  have E := bel_trans (bel_alloc w (.cells #[.int .i64 s, .int .i64 l, .int .i64 c, .int .i64 sh, .slice A n cap] 26)) (bel_alloc _ (.cells #[.int .i64 rt, .int .i64 rq, .int .i64 rv, .slice P p pc, .slice Q q qc] 80))
  have HR := Lib.hid hr
  have HP := Lib.hid h1
  have HQ := Lib.hid h2
  have HM := Lib.hid hm
  clear hr hm h1 h2
  go_enter Tryz.func155, Tryz.ntmps155
  go_wp2_with fail
  generalize ((w.alloc _).alloc _ : World) = w0 at G E ⊢
  refine (boardOf_is rt rq rv P p pc Q q qc w0).mono ?_
  rintro e w1 ⟨rfl, hb1⟩
  have Y := Box.new w1 201 #[.int .i64 rt, .int .i64 rq, .int .i64 rv, .slice P p pc, .slice Q q qc]
  have hb2 := bel_trans hb1 (bel_alloc w1 (.cells #[.int .i64 rt, .int .i64 rq, .int .i64 rv, .slice P p pc, .slice Q q qc] 201))
  have G2 := G.later hb2 G.lt
  have E2 := bel_trans E hb2
  have hG1 := (G.later hb1 G.lt).lt
  obtain ⟨d0, d1, d2, d3, d4⟩ := (G.later hb1 G.lt).five
  clear hb1 hb2 G E
  rcases hlf : lefB s l c sh zs x rt rq rv ps with _ | _
  · have HV : Hid (regB s l c sh zs x rt rq rv ps os = false) := Lib.hid (by simp [regB, hlf])
    have HLF := Lib.hid hlf
    clear hlf
    go_wp2_with fail
    generalize (w1.alloc _ : World) = w2 at Y G2 E2 ⊢
    refine (isLeftB_is HLF.out A n cap P p pc w2 HM.out ((HR.out.below E2 (Nat.le_refl _)).more E2.size) hp (HP.out.later E2)).mono ?_
    rintro e w3 ⟨rfl, hb3⟩
    have E3 := bel_trans E2 hb3
    go_wp2
    go_ret
    exact ⟨by rw [HV.out]; rfl, E3⟩
  · have HV : Hid (regB s l c sh zs x rt rq rv ps os = opsB (opnB s l c sh zs) os) := Lib.hid (by simp [regB, hlf])
    have HLF := Lib.hid hlf
    clear hlf
    go_wp2_with fail
    generalize (w1.alloc _ : World) = w2 at Y G2 E2 ⊢
    refine (isLeftB_is HLF.out A n cap P p pc w2 HM.out ((HR.out.below E2 (Nat.le_refl _)).more E2.size) hp (HP.out.later E2)).mono ?_
    rintro e w3 ⟨rfl, hb3⟩
    have E3 := bel_trans E2 hb3
    have G3 := G2.later hb3 G2.lt
    have Y3 := Y.later hb3 Y.lt
    have y4 : w3.cell? ⟨w1.heap.size, 4, none⟩ = some (.slice Q q qc) := Y3.cell 4
    clear d0 d1 d2 d3 d4 Y G2 E2 hb3
    obtain ⟨d0, d1, d2, d3, d4⟩ := G3.five
    go_wp2_with fail
    refine (opensOk_is s l c sh A n cap zs Q q qc os w3 HM.out ((HR.out.below E3 (Nat.le_refl _)).more E3.size) hq (HQ.out.later E3)).mono ?_
    rintro e w4 ⟨rfl, hb4⟩
    have E4 := bel_trans E3 hb4
    go_wp2
    go_ret
    exact ⟨by rw [HV.out]; rfl, E4⟩

end Go.Proofs.YtjdepjpjjgkmbaaGreat
