/- The model's functions of shelves, second part: a shelf that is right: contracts of each of them. -/
import Derived.Test.YtjdepjpjjgkmbaaGreatRegOk2
import Derived.Test.YtjdepjpjjgkmbaaGreatSpecProven
namespace Go.Proofs.YtjdepjpjjgkmbaaGreat
open Go.RowKit

theorem sevenGD {w : World} {g g' : Nat} {t t' : TypeId} {v0 v1 v2 v3 v4 u0 u1 : Value} (h : Box w g t #[v0, v1, v2, v3, v4]) (h' : Box w g' t' #[u0, u1]) :
    w.cell? ⟨g, 0, none⟩ = some v0 ∧ w.cell? ⟨g, 1, none⟩ = some v1 ∧ w.cell? ⟨g, 2, none⟩ = some v2 ∧ w.cell? ⟨g, 3, none⟩ = some v3 ∧ w.cell? ⟨g, 4, none⟩ = some v4 ∧ w.cell? ⟨g', 0, none⟩ = some u0 ∧ w.cell? ⟨g', 1, none⟩ = some u1 :=
  ⟨h.cell 0, h.cell 1, h.cell 2, h.cell 3, h.cell 4, h'.cell 0, h'.cell 1⟩
/-- What a certificate tells: its stamp and value are right, and it has a seal. -/
theorem cer_parts {s l c sh : Int} {zs : List Int} {x ct cq v : Int} {ps : List (Int × Int)} (h : cerB s l c sh zs 1 x ct cq v ps = true) : stB ct cq = true ∧ valB v = true ∧ ps ≠ [] := by
  unfold cerB at h
  simp only [Bool.and_eq_true, decide_eq_true_eq] at h
  obtain ⟨⟨hok, _⟩, hq⟩ := h
  have hb := okB_parts hok
  have hq1 : 1 ≤ quoN s l c sh zs := by unfold quoN; rw [if_pos hok]; omega
  have hc : 1 ≤ (goodP (rB s l c sh zs 1 x ct cq v) ps).length := by
    unfold cntN at hq
    omega
  have hle : (goodP (rB s l c sh zs 1 x ct cq v) ps).length ≤ (ps.filter (rB s l c sh zs 1 x ct cq v)).length := puts_le _
  obtain ⟨p, hp⟩ := List.exists_mem_of_length_pos (l := ps.filter (rB s l c sh zs 1 x ct cq v)) (by omega)
  rw [List.mem_filter] at hp
  have hr := hp.2
  simp only [rB, riB, seB, clB, Bool.and_eq_true] at hr
  refine ⟨hr.1.1.1.2, hr.1.1.2, fun e => ?_⟩
  rw [e] at hp
  exact absurd hp.1 (by simp)
/-- The model's spelling of it. -/
def spcB (s l c sh : Int) (zs : List Int) (x ct cq v : Int) (ps : List (Int × Int)) : Bool := stB ct cq && valB v && proB s l c sh zs x ct cq v ps && (if ct = 0 ∧ cq = 0 then decide (v = 0) && decide (ps = []) else decide (ps = goodP (rB s l c sh zs 1 x ct cq v) ps))
theorem lefB_spec (s l c sh : Int) (zs : List Int) (x ct cq v : Int) (ps : List (Int × Int)) : spcB s l c sh zs x ct cq v ps = lefB s l c sh zs x ct cq v ps := by
  unfold lefB spcB
  rcases hp : proB s l c sh zs x ct cq v ps with _ | _
  · simp
  · have hp' := hp
    rw [proB_eq, Bool.and_eq_true, Bool.or_eq_true] at hp'
    rcases hp'.2 with hn | hc
    · have : ct = 0 ∧ cq = 0 ∧ v = 0 := by
        rcases nil_cases ct cq v with ⟨h1, h2, h3, _⟩ | ⟨h, _⟩
        · exact ⟨h1, h2, h3⟩
        · rw [h] at hn; cases hn
      obtain ⟨rfl, rfl, rfl⟩ := this
      simp [stB_00, lefS, valB, inB]
    · obtain ⟨h1, h2, h3⟩ := cer_parts hc
      rw [h1, h2]
      unfold lefS
      by_cases hz : ct = 0 ∧ cq = 0
      · rw [if_pos hz, if_pos hz]
        simp [h3]
      · rw [if_neg hz, if_neg hz]
        rfl

theorem specValR_is {x : Int} {b : Bool} (h : valB x = b) (w : World) : Calls Tryz.prog 196 #[.int .i64 x] w fun e w' => e = .returned (.bool b) ∧ w = w' := by
  subst h
  go_enter Tryz.func196, Tryz.ntmps196
  go_wp2_with (go_at_call 174; refine (l1In_any _ _ _ _).mono ?_; rintro e w' ⟨rfl, rfl⟩)
  go_ret
  exact ⟨rfl, rfl⟩
theorem specClientR_is {s l c sh : Int} {zs : List Int} {x : Int} {b : Bool} (h : cliB s l c sh zs x = b) (A : Option Addr) (n cap : Nat) (w : World) (hm : n ≤ maxLen) (hr : Row w w.heap.size A n zs) :
    Calls Tryz.prog 194 #[.agg #[.int .i64 s, .int .i64 l, .int .i64 c, .int .i64 sh, .slice A n cap], .int .i64 x] w fun e w' => e = .returned (.bool b) ∧ Below w.heap.size w w' := h ▸ specClient_any s l c sh A n cap zs x w hm hr
theorem specStampR_is {c k : Int} {b : Bool} (h : stB c k = b) (w : World) : Calls Tryz.prog 195 #[.agg #[.int .i64 c, .int .i64 k]] w fun e w' => e = .returned (.bool b) ∧ Below w.heap.size w w' := h ▸ specStampOk_any c k w
theorem specProvenR_is {s l c sh : Int} {zs : List Int} {x ct cq v : Int} {ps : List (Int × Int)} {b : Bool} (hb : proB s l c sh zs x ct cq v ps = b) (A : Option Addr) (n cap : Nat) (P : Option Addr) (m pcap : Nat) (w : World) (hm : n ≤ maxLen) (hr : Row w w.heap.size A n zs) (hn : m ≤ 4194304) (h : Pairs w w.heap.size P m ps) :
    Calls Tryz.prog 152 #[.agg #[.int .i64 s, .int .i64 l, .int .i64 c, .int .i64 sh, .slice A n cap], .int .i64 x, .agg #[.int .i64 ct, .int .i64 cq], .int .i64 v, .slice P m pcap] w fun e w' => e = .returned (.bool b) ∧ Below w.heap.size w w' := hb ▸ specProven_is s l c sh A n cap zs x ct cq v P m pcap ps w hm hr hn h

set_option maxHeartbeats 1000000 in
theorem l7Open_is (s l c sh : Int) (A : Option Addr) (n cap : Nat) (zs : List Int) (k t y v : Int) (w : World) (hm : n ≤ maxLen) (hr : Row w w.heap.size A n zs) :
    Calls Tryz.prog 180 #[.agg #[.int .i64 s, .int .i64 l, .int .i64 c, .int .i64 sh, .slice A n cap], .agg #[.int .i64 k, .int .i64 t, .int .i64 y, .int .i64 v]] w fun e w' => e = .returned (.bool (opnB s l c sh zs (k, t, y, v))) ∧ Below w.heap.size w w' := by
  have D := Box.new (w.alloc (.cells #[.int .i64 s, .int .i64 l, .int .i64 c, .int .i64 sh, .slice A n cap] 26)) 97 #[.int .i64 k, .int .i64 t, .int .i64 y, .int .i64 v]
  have E := bel_trans (bel_alloc w (.cells #[.int .i64 s, .int .i64 l, .int .i64 c, .int .i64 sh, .slice A n cap] 26)) (bel_alloc _ (.cells #[.int .i64 k, .int .i64 t, .int .i64 y, .int .i64 v] 97))
  simp only [World.size_alloc] at D
  have HR := Lib.hid ((hr.below E (Nat.le_refl _)).more E.size)
  have HM := Lib.hid hm
  clear hr hm
  rcases hcl : cliB s l c sh zs k with _ | _
  · have HV := Lib.hid (opn_1 (t := t) (y := y) (v := v) hcl)
    have HC := Lib.hid hcl
    clear hcl
    go_enter Tryz.func180, Tryz.ntmps180
    go_wp2_with fail
    generalize ((w.alloc _).alloc _ : World) = w0 at D E HR ⊢
    refine (specClientR_is HC.out A n cap w0 HM.out HR.out).mono ?_
    rintro e w1 ⟨rfl, hb1⟩
    go_wp2
    go_ret
    exact ⟨by rw [HV.out]; rfl, bel_trans E hb1⟩
  · have HC := Lib.hid hcl
    clear hcl
    go_enter Tryz.func180, Tryz.ntmps180
    go_wp2_with fail
    generalize ((w.alloc _).alloc _ : World) = w0 at D E HR ⊢
    refine (specClientR_is HC.out A n cap w0 HM.out HR.out).mono ?_
    rintro e w1 ⟨rfl, hb1⟩
    have D1 := D.later hb1 D.lt
    have E1 := bel_trans E hb1
    clear D E HR hb1
    obtain ⟨d0, d1, d2, d3⟩ := D1.four
    rcases h4 : stB t y with _ | _
    · have HV := Lib.hid (opn_4 (s := s) (l := l) (c := c) (sh := sh) (zs := zs) (k := k) (v := v) h4)
      have H4 := Lib.hid h4
      clear h4
      go_wp2_with (go_at_call 195; refine (specStampR_is H4.out _).mono ?_; rintro e w2 ⟨rfl, hb2⟩; have E2 := bel_trans E1 hb2)
      go_ret
      exact ⟨by rw [HV.out]; rfl, E2⟩
    · have H4 := Lib.hid h4
      go_wp2_with fail
      refine (specStampR_is H4.out w1).mono ?_
      rintro e w2 ⟨rfl, hb2⟩
      have E2 := bel_trans E1 hb2
      have D2 := D1.later hb2 D1.lt
      clear D1 E1 hb2 d0 d1 d2 d3
      obtain ⟨d0, d1, d2, d3⟩ := D2.four
      by_cases h3 : 1 ≤ t
      · have h3' : 0 < t := by omega
        by_cases h2 : y = k
        · subst h2
          have HV := Lib.hid (opn_5 (v := v) HC.out h3 h4)
          clear h4
          rcases h5 : valB v with _ | _
          all_goals
            have H5 := Lib.hid h5
            clear h5
            go_wp2_with (go_at_call 196; refine (specValR_is H5.out _).mono ?_; rintro e w3 ⟨rfl, rfl⟩)
            go_ret
            exact ⟨by rw [HV.out, H5.out]; rfl, E2⟩
        · have h2' : (y == k) = false := by simpa using h2
          have HV := Lib.hid (opn_2 (s := s) (l := l) (c := c) (sh := sh) (zs := zs) (t := t) (v := v) h2)
          clear h4
          go_wp2
          go_ret
          exact ⟨by rw [HV.out]; rfl, E2⟩
      · have h3' : ¬ 0 < t := by omega
        have HV := Lib.hid (opn_3 (s := s) (l := l) (c := c) (sh := sh) (zs := zs) (k := k) (y := y) (v := v) h3)
        clear h4
        go_wp2
        go_ret
        exact ⟨by rw [HV.out]; rfl, E2⟩
theorem l7OpenB_is {s l c sh : Int} {zs : List Int} {k t y v : Int} {b : Bool} (h : opnB s l c sh zs (k, t, y, v) = b) (A : Option Addr) (n cap : Nat) (w : World) (hm : n ≤ maxLen) (hr : Row w w.heap.size A n zs) :
    Calls Tryz.prog 180 #[.agg #[.int .i64 s, .int .i64 l, .int .i64 c, .int .i64 sh, .slice A n cap], .agg #[.int .i64 k, .int .i64 t, .int .i64 y, .int .i64 v]] w fun e w' => e = .returned (.bool b) ∧ Below w.heap.size w w' := h ▸ l7Open_is s l c sh A n cap zs k t y v w hm hr

set_option maxHeartbeats 2000000 in
theorem l7Like_is (A A' : Option Addr) (n cap n' cap' : Nat) (ps qs : List (Int × Int)) (w : World) (hm : n ≤ 4194304) (hm' : n' ≤ 4194304) (hr : Pairs w w.heap.size A n ps) (hr' : Pairs w w.heap.size A' n' qs) :
    Calls Tryz.prog 219 #[.slice A n cap, .slice A' n' cap'] w fun e w' => e = .returned (.bool (decide (ps = qs))) ∧ Below w.heap.size w w' := by
  by_cases hnn : n = n'
  · subst hnn
    have HL := Lib.hid hr.1
    have HL' := Lib.hid hr'.1
    have HR := Lib.hid hr
    have HR' := Lib.hid hr'
    clear hr hr'
    go_enter Tryz.func219, Tryz.ntmps219
    go_wp2_with fail
    go_loopw [5] (fun i wr => ∃ k : Nat, k ≤ n ∧ i = .int .i64 k ∧ (∀ j, j < k → pth ps j = pth qs j) ∧ Below w.heap.size w wr) (fun i _ => n - (intOf i).toNat)
    case atStart => exact ⟨0, Nat.zero_le _, rfl, fun j hj => absurd hj (by omega), Below.refl _ _⟩
    case round =>
      obtain ⟨k, hk, rfl, heq, hb⟩ := hrel
      by_cases hlt : k < n
      · obtain ⟨b, o, hA, hbB, hcell⟩ := HR.out.2 (by omega)
        obtain ⟨b', o', hA', hbB', hcell'⟩ := HR'.out.2 (by omega)
        subst hA hA'
        obtain ⟨g0, g1⟩ := hcell k hlt
        obtain ⟨h0, h1⟩ := hcell' k hlt
        have hz := hb.size
        have g0 := After.cell (w := wr) (a := ⟨b, o + k * 2, none⟩) (by simp; omega) ((hb.cell (p := ⟨b, o + k * 2, none⟩) hbB).trans g0)
        have g1 := After.cell (w := wr) (a := ⟨b, o + k * 2 + 1, none⟩) (by simp; omega) ((hb.cell (p := ⟨b, o + k * 2 + 1, none⟩) hbB).trans g1)
        have h0 := After.cell (w := wr) (a := ⟨b', o' + k * 2, none⟩) (by simp; omega) ((hb.cell (p := ⟨b', o' + k * 2, none⟩) hbB').trans h0)
        have h1 := After.cell (w := wr) (a := ⟨b', o' + k * 2 + 1, none⟩) (by simp; omega) ((hb.cell (p := ⟨b', o' + k * 2 + 1, none⟩) hbB').trans h1)
        generalize hx : pth ps k = x at g0 g1
        generalize hy : pth qs k = y at h0 h1
        obtain ⟨x, x'⟩ := x
        obtain ⟨y, y'⟩ := y
        have HX := Lib.hid hx
        have HY := Lib.hid hy
        replace heq := Lib.hid heq
        have hlt' : (k : Int) < (n : Int) := by omega
        clear hcell hcell' hx hy
        by_cases e1 : x = y
        · subst e1
          by_cases e2 : x' = y'
          · subst e2
            have hst := Lib.hid (show ∀ j, j < k + 1 → pth ps j = pth qs j from fun j hj => by
              by_cases ej : j = k
              · subst ej; rw [HX.out, HY.out]
              · exact heq.out j (by omega))
            go_wp2_with fail
            refine wp_region_after (by kernel_rfl) (by kernel_rfl) ?_
            repeat (first | go_big_quiet_step (fail) | quiet_step (fail))
            refine wpQuiet_nil ?_
            intro pw
            have E3 := bel_trans hb pw.bel
            go_wp2
            go_roundw
            case rel => exact ⟨k + 1, by omega, by go_num, hst.out, E3⟩
            case measure => simp [intOf]; omega
          · have e2' : (x' == y') = false := by simpa using e2
            have HF : Hid (decide (ps = qs) = false) := Lib.hid (decide_eq_false fun h => e2 (by have a := HX.out; rw [h, HY.out] at a; injection a with _ a; exact a.symm))
            go_wp2_with fail
            refine wp_region_after (by kernel_rfl) (by kernel_rfl) ?_
            repeat (first | go_big_quiet_step (fail) | quiet_step (fail))
            refine wpQuiet_nil ?_
            intro pw
            have E3 := bel_trans hb pw.bel
            go_wp2
            go_ret
            exact ⟨by rw [HF.out]; rfl, E3⟩
        · have e1' : (x == y) = false := by simpa using e1
          have HF : Hid (decide (ps = qs) = false) := Lib.hid (decide_eq_false fun h => e1 (by have a := HX.out; rw [h, HY.out] at a; injection a with a _; exact a.symm))
          go_wp2_with fail
          refine wp_region_after (by kernel_rfl) (by kernel_rfl) ?_
          repeat (first | go_big_quiet_step (fail) | quiet_step (fail))
          refine wpQuiet_nil ?_
          intro pw
          have E3 := bel_trans hb pw.bel
          go_wp2
          go_ret
          exact ⟨by rw [HF.out]; rfl, E3⟩
      · obtain rfl : k = n := by omega
        have HF : Hid (decide (ps = qs) = true) := Lib.hid (decide_eq_true (pth_ext (by rw [HL.out, HL'.out]) fun j hj => heq j (by rw [← HL.out]; exact hj)))
        replace heq := Lib.hid heq
        go_wp2
        go_ret
        exact ⟨by rw [HF.out]; rfl, hb⟩
  · have hne : ((n : Int) != (n' : Int)) = true := by simp; omega
    have HF : Hid (decide (ps = qs) = false) := Lib.hid (decide_eq_false fun h => hnn (by rw [← hr.1, ← hr'.1, h]))
    clear hr hr'
    go_enter Tryz.func219, Tryz.ntmps219
    go_wp2
    go_ret
    exact ⟨by rw [HF.out]; rfl, Below.refl _ _⟩


set_option maxRecDepth 100000 in
set_option maxHeartbeats 2000000 in
theorem l7Proven_is (s l c sh : Int) (A : Option Addr) (n cap : Nat) (zs : List Int) (x ct cq v : Int) (P : Option Addr) (m pcap : Nat) (ps : List (Int × Int)) (w : World) (hm : n ≤ maxLen) (hr : Row w w.heap.size A n zs) (hn : m ≤ 4194304) (h : Pairs w w.heap.size P m ps) :
    Calls Tryz.prog 181 #[.agg #[.int .i64 s, .int .i64 l, .int .i64 c, .int .i64 sh, .slice A n cap], .int .i64 x, .agg #[.int .i64 ct, .int .i64 cq], .int .i64 v, .slice P m pcap] w fun e w' => e = .returned (.bool (lefB s l c sh zs x ct cq v ps)) ∧ Below w.heap.size w w' := by
  rw [← lefB_spec]
  have G := (Box.new w 26 #[.int .i64 s, .int .i64 l, .int .i64 c, .int .i64 sh, .slice A n cap]).alloc (.cells #[.int .i64 ct, .int .i64 cq] 39)
  have D := Box.new (w.alloc (.cells #[.int .i64 s, .int .i64 l, .int .i64 c, .int .i64 sh, .slice A n cap] 26)) 39 #[.int .i64 ct, .int .i64 cq]
  have E := bel_trans (bel_alloc w (.cells #[.int .i64 s, .int .i64 l, .int .i64 c, .int .i64 sh, .slice A n cap] 26)) (bel_alloc _ (.cells #[.int .i64 ct, .int .i64 cq] 39))
  simp only [World.size_alloc] at D
  have HR := Lib.hid hr
  have HP := Lib.hid h
  have HL := Lib.hid h.1
  have HM := Lib.hid hm
  clear hr hm h
  go_enter Tryz.func181, Tryz.ntmps181
  go_wp2_with fail
  generalize ((w.alloc _).alloc _ : World) = w0 at D G E ⊢
  rcases h1 : stB ct cq with _ | _
  · have H1 := Lib.hid h1
    clear h1
    refine (specStampR_is H1.out w0).mono ?_
    rintro e w1 ⟨rfl, hb1⟩
    have E1 := bel_trans E hb1
    go_wp2
    go_ret
    exact ⟨by unfold spcB; rw [H1.out]; rfl, E1⟩
  have H1 := Lib.hid h1
  clear h1
  refine (specStampR_is H1.out w0).mono ?_
  rintro e w1 ⟨rfl, hb1⟩
  have E1 := bel_trans E hb1
  have G1 := G.later hb1 G.lt
  have D1 := D.later hb1 D.lt
  clear E G D hb1
  obtain ⟨d0, d1⟩ := D1.two
  obtain ⟨g0, g1, g2, g3, g4⟩ := G1.five
  rcases h2 : valB v with _ | _
  · have H2 := Lib.hid h2
    clear h2
    go_wp2_with (go_at_call 196; refine (specValR_is H2.out _).mono ?_; rintro e w3 ⟨rfl, rfl⟩)
    go_ret
    exact ⟨by unfold spcB; rw [H1.out, H2.out]; rfl, E1⟩
  have H2 := Lib.hid h2
  clear h2
  go_wp2_with fail
  refine (specValR_is H2.out w1).mono ?_
  rintro e w1' ⟨rfl, rfl⟩
  rcases h3 : proB s l c sh zs x ct cq v ps with _ | _
  · have H3 := Lib.hid h3
    clear h3
    go_wp2_with fail
    refine (specProvenR_is H3.out A n cap P m pcap w1 HM.out ((HR.out.below E1 (Nat.le_refl _)).more E1.size) hn (HP.out.later E1)).mono ?_
    rintro e w2 ⟨rfl, hb2⟩
    have E2 := bel_trans E1 hb2
    go_wp2
    go_ret
    exact ⟨by unfold spcB; rw [H1.out, H2.out, H3.out]; rfl, E2⟩
  have H3 := Lib.hid h3
  clear h3
  go_wp2_with fail
  refine (specProvenR_is H3.out A n cap P m pcap w1 HM.out ((HR.out.below E1 (Nat.le_refl _)).more E1.size) hn (HP.out.later E1)).mono ?_
  rintro e w2 ⟨rfl, hb2⟩
  have E2 := bel_trans E1 hb2
  have G2 := G1.later hb2 G1.lt
  have D2 := D1.later hb2 D1.lt
  clear E1 G1 D1 hb2 d0 d1 g0 g1 g2 g3 g4
  obtain ⟨d0, d1⟩ := D2.two
  rcases zero_cases ct cq with ⟨rfl, rfl⟩ | ⟨hcase, hnz⟩
  · go_wp2_with fail
    refine (l4Zero_yes w2).mono ?_
    rintro e w3 ⟨rfl, hb3⟩
    have E3 := bel_trans E2 hb3
    by_cases hv : v = 0
    · subst hv
      by_cases hz : m = 0
      · subst hz
        have hps : Hid (ps = []) := Lib.hid (List.length_eq_zero_iff.1 HL.out)
        go_wp2
        go_ret
        exact ⟨by unfold spcB; rw [H1.out, H2.out, H3.out, hps.out]; simp, E3⟩
      · have hm0 : ((m : Int) == 0) = false := by simp; exact hz
        have hps : Hid (ps ≠ []) := Lib.hid (fun e => hz (by rw [← HL.out, e]; rfl))
        go_wp2
        go_ret
        exact ⟨by unfold spcB; rw [H1.out, H2.out, H3.out]; have := hps.out; simp [this], E3⟩
    · have hv' : (v == 0) = false := by simpa using hv
      go_wp2
      go_ret
      exact ⟨by unfold spcB; rw [H1.out, H2.out, H3.out]; simp [hv], E3⟩
  · have HZ := Lib.hid (l4Zero_no ct cq hcase)
    have HN := Lib.hid hnz
    clear hcase hnz
    go_wp2_with fail
    refine (HZ.out w2).mono ?_
    rintro e w3 ⟨rfl, hb3⟩
    have E3 := bel_trans E2 hb3
    have G3 := G2.later hb3 G2.lt
    have D3 := D2.later hb3 D2.lt
    have R3 := (HR.out.below E3 (Nat.le_refl _)).more E3.size
    have P3 := HP.out.later E3
    clear E2 G2 D2 hb3 d0 d1
    obtain ⟨d0, d1⟩ := D3.two
    obtain ⟨g0, g1, g2, g3, g4⟩ := G3.five
    obtain ⟨J, hJ⟩ : ∃ J, goodP (rB s l c sh zs 1 x ct cq v) ps = J := ⟨_, rfl⟩
    have hJl : J.length ≤ 4194304 := by
      rw [← hJ]
      have := goodP_le (rB s l c sh zs 1 x ct cq v) ps
      rw [HL.out] at this
      omega
    replace hJ := Lib.hid hJ
    go_wp2_with fail
    go_region_held3 (fun w' => w'.cell? ⟨w.heap.size, 0, none⟩ = some (.int .i64 s) ∧ w'.cell? ⟨w.heap.size, 1, none⟩ = some (.int .i64 l) ∧ w'.cell? ⟨w.heap.size, 2, none⟩ = some (.int .i64 c) ∧ w'.cell? ⟨w.heap.size, 3, none⟩ = some (.int .i64 sh) ∧ w'.cell? ⟨w.heap.size, 4, none⟩ = some (.slice A n cap) ∧ w'.cell? ⟨w.heap.size + 1, 0, none⟩ = some (.int .i64 ct) ∧ w'.cell? ⟨w.heap.size + 1, 1, none⟩ = some (.int .i64 cq))
      (first | (with_reducible exact K6) | (with_reducible exact K5) | (with_reducible exact K4) | go_keep)
      (first
        | (go_at_call 137; refine (l4Ready_is x ct cq v _).mono ?_; rintro e w4 ⟨rfl, hb4⟩; have F4 := bel_drew' hb4; have R4 := (R3.below F4 (Nat.le_refl _)).more F4.size; have P4 := P3.later F4; have K4 := sevenGD (G3.later F4 G3.lt) (D3.later F4 D3.lt))
        | (go_at_call 220; refine (specGood_is s l c sh A n cap zs 1 x ct cq v P m pcap ps _ HM.out R4 hn P4).mono ?_; rintro e w5 ⟨q5, c5, rfl, hw5, hb5⟩; rw [hJ.out] at hw5; have F5 := bel_trans F4 hb5; have P5 := P4.later hb5; have K5 := sevenGD (G3.later F5 G3.lt) (D3.later F5 D3.lt))
        | (go_at_call 219; rw [hJ.out]; refine (l7Like_is P _ m pcap J.length c5 ps J _ hn hJl P5 hw5).mono ?_; rintro e w6 ⟨rfl, hb6⟩; have F6 := bel_trans F5 hb6; have K6 := sevenGD (G3.later F6 G3.lt) (D3.later F6 D3.lt)))
    have E6 := bel_trans E3 F6
    clear K4 K5 K6 d0 d1 g0 g1 g2 g3 g4
    go_wp2
    go_ret
    exact ⟨by unfold spcB; rw [H1.out, H2.out, H3.out, if_neg HN.out, hJ.out]; rfl, E6⟩

end Go.Proofs.YtjdepjpjjgkmbaaGreat

/- The model's RegOk: its contract. -/
namespace Go.Proofs.YtjdepjpjjgkmbaaGreat
open Go.RowKit

set_option maxRecDepth 100000 in
set_option maxHeartbeats 2000000 in
theorem specRegOk_is (s l c sh : Int) (A : Option Addr) (n cap : Nat) (zs : List Int) (si rt rq rv : Int) (P : Option Addr) (p pc : Nat) (Q : Option Addr) (q qc : Nat) (ps : List (Int × Int)) (os : List Opn) (w : World) (hm : n ≤ maxLen) (hr : Row w w.heap.size A n zs) (hp : p ≤ 4194304) (hq : q ≤ 4194304) (h1 : Pairs w w.heap.size P p ps) (h2 : Quads w w.heap.size Q q os) :
    Calls Tryz.prog 150 #[.agg #[.int .i64 s, .int .i64 l, .int .i64 c, .int .i64 sh, .slice A n cap], .int .i64 si, .agg #[.int .i64 rt, .int .i64 rq, .int .i64 rv, .slice P p pc, .slice Q q qc]] w fun e w' => e = .returned (.bool (regB s l c sh zs si rt rq rv ps os)) ∧ Below w.heap.size w w' := by
  have G := (Box.new w 26 #[.int .i64 s, .int .i64 l, .int .i64 c, .int .i64 sh, .slice A n cap]).alloc (.cells #[.int .i64 rt, .int .i64 rq, .int .i64 rv, .slice P p pc, .slice Q q qc] 80)
  have D := Box.new (w.alloc (.cells #[.int .i64 s, .int .i64 l, .int .i64 c, .int .i64 sh, .slice A n cap] 26)) 80 #[.int .i64 rt, .int .i64 rq, .int .i64 rv, .slice P p pc, .slice Q q qc]
  have E := bel_trans (bel_alloc w (.cells #[.int .i64 s, .int .i64 l, .int .i64 c, .int .i64 sh, .slice A n cap] 26)) (bel_alloc _ (.cells #[.int .i64 rt, .int .i64 rq, .int .i64 rv, .slice P p pc, .slice Q q qc] 80))
  simp only [World.size_alloc] at D
  have HL := Lib.hid h2.1
  have HR := Lib.hid hr
  have HP := Lib.hid h1
  have HQ := Lib.hid h2
  have HM := Lib.hid hm
  clear hr hm h1 h2
  go_enter Tryz.func150, Tryz.ntmps150
  go_wp2_with fail
  generalize ((w.alloc _).alloc _ : World) = w0 at D G E ⊢
  go_loopw [7] (fun iv wr => ∃ k : Nat, k ≤ q ∧ iv = .int .i64 k ∧ (∀ j, j < k → stepB (opnB s l c sh zs) os j = true) ∧ Box wr w.heap.size 26 #[.int .i64 s, .int .i64 l, .int .i64 c, .int .i64 sh, .slice A n cap] ∧ Box wr (w.heap.size + 1) 80 #[.int .i64 rt, .int .i64 rq, .int .i64 rv, .slice P p pc, .slice Q q qc] ∧ Below w.heap.size w wr) (fun i _ => q - (intOf i).toNat)
  case atStart => exact ⟨0, Nat.zero_le _, rfl, fun j hj => absurd hj (by omega), G, D, E⟩
  case round =>
    clear G D E
    obtain ⟨k, hk, rfl, hst, G, D, hb⟩ := hrel
    have d4 : wr.cell? ⟨w.heap.size + 1, 4, none⟩ = some (.slice Q q qc) := D.cell 4
    by_cases hlt : k < q
    · obtain ⟨b, o, hA, hbB, hcell⟩ := HQ.out.2 (by omega)
      subst hA
      have hzb := hb.size
      obtain ⟨g0, g1, g2, g3⟩ := hcell k hlt
      have g0 := After.cell (w := wr) (a := ⟨b, o + k * 4, none⟩) (by show b < _; omega) ((hb.cell (p := ⟨b, o + k * 4, none⟩) hbB).trans g0)
      have g1 := After.cell (w := wr) (a := ⟨b, o + k * 4 + 1, none⟩) (by show b < _; omega) ((hb.cell (p := ⟨b, o + k * 4 + 1, none⟩) hbB).trans g1)
      have g2 := After.cell (w := wr) (a := ⟨b, o + k * 4 + 2, none⟩) (by show b < _; omega) ((hb.cell (p := ⟨b, o + k * 4 + 2, none⟩) hbB).trans g2)
      have g3 := After.cell (w := wr) (a := ⟨b, o + k * 4 + 3, none⟩) (by show b < _; omega) ((hb.cell (p := ⟨b, o + k * 4 + 3, none⟩) hbB).trans g3)
      generalize hx : oth os k = x at g0 g1 g2 g3
      obtain ⟨x, t, y, v⟩ := x
      have HX := Lib.hid hx
      have hlt' : (k : Int) < (q : Int) := by omega
      replace hst := Lib.hid hst
      clear hx
      obtain ⟨e0, e1, e2, e3, e4⟩ := fiveAfter G
      have m4 := After.cell (w := wr) (a := ⟨w.heap.size + 1, 4, none⟩) D.lt d4
      have hrow := Lib.hid ((HR.out.below hb (Nat.le_refl _)).more hb.size)
      rcases hR : opnB s l c sh zs (x, t, y, v) with _ | _
      · have HF0 : opsB (opnB s l c sh zs) os = false := opsB_false (k := k) (by rw [HL.out]; exact hlt) (by unfold stepB; rw [HX.out, hR]; rfl)
        have HF : Hid (regB s l c sh zs si rt rq rv ps os = false) := Lib.hid (by unfold regB; rw [HF0, Bool.and_false])
        have HRR := Lib.hid hR
        clear hR hcell HF0
        go_wp2_with fail
        refine wp_region_after (by kernel_rfl) (by kernel_rfl) ?_
        repeat (first | go_big_quiet_step ((go_at_call 180; exact after_of (l7OpenB_is HRR.out _ n cap _ HM.out (rowAfter hrow.out _)))) | quiet_step ((go_at_call 180; exact after_of (l7OpenB_is HRR.out _ n cap _ HM.out (rowAfter hrow.out _)))))
        refine wpQuiet_nil ?_
        intro pw
        go_wp2
        go_ret
        exact ⟨by rw [HF.out]; rfl, bel_trans hb pw.bel⟩
      · have HRR := Lib.hid hR
        rcases k with _ | j
        · have hst2 := Lib.hid (show ∀ i, i < 0 + 1 → stepB (opnB s l c sh zs) os i = true from fun i hi => by
            obtain rfl : i = 0 := by omega
            unfold stepB; rw [HX.out, hR]; rfl)
          clear hR hcell
          simp only [Nat.zero_mul, Nat.add_zero] at g0 g1 g2 g3
          go_wp2_with fail
          refine wp_region_after (by kernel_rfl) (by kernel_rfl) ?_
          repeat (first | go_big_quiet_step ((go_at_call 180; exact after_of (l7OpenB_is HRR.out _ n cap _ HM.out (rowAfter hrow.out _)))) | quiet_step ((go_at_call 180; exact after_of (l7OpenB_is HRR.out _ n cap _ HM.out (rowAfter hrow.out _)))))
          refine wpQuiet_nil ?_
          intro pw
          have G3 := Lib.hid (G.later pw.bel G.lt)
          have D3 := Lib.hid (D.later pw.bel D.lt)
          have E3 := Lib.hid (bel_trans hb pw.bel)
          go_wp2
          go_roundw
          case rel => exact ⟨1, by omega, by go_num, hst2.out, G3.out, D3.out, E3.out⟩
          case measure => simp [intOf]; omega
        · obtain ⟨p0, _, _, _⟩ := hcell j (by omega)
          have p0 := After.cell (w := wr) (a := ⟨b, o + j * 4, none⟩) (by show b < _; omega) ((hb.cell (p := ⟨b, o + j * 4, none⟩) hbB).trans p0)
          have hxx : Hid (stepB (opnB s l c sh zs) os (j + 1) = decide ((oth os j).1 < x)) := Lib.hid (by unfold stepB; rw [HX.out, hR]; simp)
          generalize (oth os j).1 = z at p0 hxx
          have hj0 : (0 : Int) ≤ (j : Int) := by omega
          have hj1 : (j : Int) < (q : Int) := by omega
          have hjw : IntKind.i64.wrap ((j : Int) + 1 - 1) = (j : Int) := by rw [Int.add_sub_cancel]; exact IntWalk.i64_in _ (by omega)
          have hjw' : IntKind.i64.wrap (j : Int) = (j : Int) := IntWalk.i64_in _ (by omega)
          have hpos : (0 : Int) < (j : Int) + 1 := by omega
          clear hR hcell
          by_cases hz : z < x
          · have hst2 := Lib.hid (show ∀ i, i < j + 1 + 1 → stepB (opnB s l c sh zs) os i = true from fun i hi => by
              by_cases ei : i = j + 1
              · subst ei; rw [hxx.out]; exact decide_eq_true hz
              · exact hst.out i (by omega))
            have hz1 : decide (x ≤ z) = false := decide_eq_false (by omega)
            go_wp2_with fail
            refine wp_region_after (by kernel_rfl) (by kernel_rfl) ?_
            repeat (first | go_big_quiet_step ((go_at_call 180; exact after_of (l7OpenB_is HRR.out _ n cap _ HM.out (rowAfter hrow.out _)))) | quiet_step ((go_at_call 180; exact after_of (l7OpenB_is HRR.out _ n cap _ HM.out (rowAfter hrow.out _)))))
            refine wpQuiet_nil ?_
            intro pw
            have G3 := Lib.hid (G.later pw.bel G.lt)
            have D3 := Lib.hid (D.later pw.bel D.lt)
            have E3 := Lib.hid (bel_trans hb pw.bel)
            clear hjw hjw' p0
            go_wp2
            go_roundw
            case rel => exact ⟨j + 1 + 1, by omega, by go_num, hst2.out, G3.out, D3.out, E3.out⟩
            case measure => simp [intOf]; omega
          · have HF0 : opsB (opnB s l c sh zs) os = false := opsB_false (k := j + 1) (by rw [HL.out]; exact hlt) (by rw [hxx.out]; exact decide_eq_false hz)
            have HF : Hid (regB s l c sh zs si rt rq rv ps os = false) := Lib.hid (by unfold regB; rw [HF0, Bool.and_false])
            have hz1 : decide (x ≤ z) = true := decide_eq_true (by omega)
            clear HF0
            go_wp2_with fail
            refine wp_region_after (by kernel_rfl) (by kernel_rfl) ?_
            repeat (first | go_big_quiet_step ((go_at_call 180; exact after_of (l7OpenB_is HRR.out _ n cap _ HM.out (rowAfter hrow.out _)))) | quiet_step ((go_at_call 180; exact after_of (l7OpenB_is HRR.out _ n cap _ HM.out (rowAfter hrow.out _)))))
            refine wpQuiet_nil ?_
            intro pw
            clear hjw hjw' p0
            go_wp2
            go_ret
            exact ⟨by rw [HF.out]; rfl, bel_trans hb pw.bel⟩
    · obtain rfl : k = q := by omega
      have HF : Hid (regB s l c sh zs si rt rq rv ps os = lefB s l c sh zs si rt rq rv ps) := Lib.hid (by unfold regB; rw [opsB_true fun j hj => hst j (by rw [← HL.out]; exact hj), Bool.and_true])
      replace hst := Lib.hid hst
      obtain ⟨e0, e1, e2, e3, e4⟩ := G.five
      obtain ⟨d0, d1, d2, d3, -⟩ := D.five
      go_wp2_with fail
      refine (l7Proven_is s l c sh A n cap zs si rt rq rv P p pc ps wr HM.out ((HR.out.below hb (Nat.le_refl _)).more hb.size) hp (HP.out.later hb)).mono ?_
      rintro e w2 ⟨rfl, hb2⟩
      have E2 := bel_trans hb hb2
      go_wp2
      go_ret
      exact ⟨by rw [HF.out]; rfl, E2⟩

end Go.Proofs.YtjdepjpjjgkmbaaGreat
