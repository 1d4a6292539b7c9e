/- A row of records of one's own, k of a list laid into it; no conditions. -/
import Derived.Test.YtjdepjpjjgkmbaaGreatNotedSeg1
import Derived.Test.YtjdepjpjjgkmbaaGreatNotedSeg0
import Derived.Deep.AppendLies
import Derived.Laws.Pointers
import Derived.Deep.RegionLaw
import Derived.Deep.CutBlock
import Derived.Deep.MidRow
import Derived.Deep.Slices
import Derived.Lib.AppendZerosOnto
import Derived.Laws.AppendOwnNone

/- The model's ProvenOk: its contract; up to some four million seals. -/
namespace Go.Proofs.YtjdepjpjjgkmbaaGreat
open Go.RowKit

set_option maxRecDepth 100000 in
set_option maxHeartbeats 2000000 in
theorem specProven_is (s l c sh : Int) (A : Option Addr) (n cap : Nat) (zs : List Int) (x ct cq v : Int) (P : Option Addr) (m pcap : Nat) (ps : List (Int × Int)) (w : World) (hm : n ≤ maxLen) (hr : Row w w.heap.size A n zs) (hn : m ≤ 4194304) (h : Pairs w w.heap.size P m ps) :
    Calls Tryz.prog 152 #[.agg #[.int .i64 s, .int .i64 l, .int .i64 c, .int .i64 sh, .slice A n cap], .int .i64 x, .agg #[.int .i64 ct, .int .i64 cq], .int .i64 v, .slice P m pcap] w fun e w' => e = .returned (.bool (proB s l c sh zs x ct cq v ps)) ∧ Below w.heap.size w w' := by
  rw [proB_eq]
  have E0 := bel_trans (bel_alloc w (.cells #[.int .i64 s, .int .i64 l, .int .i64 c, .int .i64 sh, .slice A n cap] 26)) (bel_alloc _ (.cells #[.int .i64 ct, .int .i64 cq] 39))
  have DG := (Box.new w 26 #[.int .i64 s, .int .i64 l, .int .i64 c, .int .i64 sh, .slice A n cap]).alloc (.cells #[.int .i64 ct, .int .i64 cq] 39)
  have DT := Box.new (w.alloc (.cells #[.int .i64 s, .int .i64 l, .int .i64 c, .int .i64 sh, .slice A n cap] 26)) 39 #[.int .i64 ct, .int .i64 cq]
  simp only [World.size_alloc] at DT
  have HR := Lib.hid ((hr.below E0 (Nat.le_refl _)).more E0.size)
  have HM := Lib.hid hm
  have HP := Lib.hid (h.later E0)
  have hN := Lib.hid hn
  clear h hr hm
  obtain ⟨d0, d1, d2, d3, d4⟩ := DG.five
  go_enter Tryz.func152, Tryz.ntmps152
  go_wp2_with fail
  generalize ((w.alloc _).alloc _ : World) = w1 at E0 DG DT HR HP d0 d1 d2 d3 d4 ⊢
  rcases hok : okB s l c sh zs with _ | _
  · have hs := Lib.hid (show shfB s l c sh zs x = false by simp [shfB, hok])
    have HO := Lib.hid hok
    clear hok
    refine (specGroupB_is HO.out A n cap w1 HM.out HR.out).mono ?_
    rintro e w2 ⟨rfl, hb2⟩
    have E2 := bel_trans E0 hb2
    go_wp2
    go_ret
    exact ⟨by rw [hs.out]; rfl, E2⟩
  · have hsh := okB_sh hok
    have hs := Lib.hid (show shfB s l c sh zs x = inB x 0 (sh - 1) by simp [shfB, hok])
    have HO := Lib.hid hok
    clear hok
    refine (specGroupB_is HO.out A n cap w1 HM.out HR.out).mono ?_
    rintro e w2 ⟨rfl, hb2⟩
    have E2 := bel_trans E0 hb2
    have DG2 := DG.later hb2 DG.lt
    have DT2 := DT.later hb2 DT.lt
    have HR2 := Lib.hid ((HR.out.below hb2 (Nat.le_refl _)).more hb2.size)
    have HP2 := Lib.hid (HP.out.later hb2)
    clear d0 d1 d2 d3 d4 DG DT HR HP hb2 E0
    obtain ⟨d0, d1, d2, d3, d4⟩ := DG2.five
    obtain ⟨f0, f1, f2, f3, f4⟩ := fiveAfter DG2
    obtain ⟨t0, t1⟩ := DT2.two
    have f5 := After.cell (by exact DT2.lt) t0
    have f6 := After.cell (by exact DT2.lt) t1
    rcases hin : inB x 0 (sh - 1) with _ | _
    · have HI := Lib.hid hin
      go_wp2_with (go_at_call 174; refine (l1In_any _ _ _ _).mono ?_; rintro e w' ⟨rfl, rfl⟩)
      go_ret
      exact ⟨by rw [hs.out, HI.out]; rfl, E2⟩
    · have HI := Lib.hid hin
      rcases hc : cerB s l c sh zs 1 x ct cq v ps with _ | _
      all_goals (
        have HC := Lib.hid hc
        clear hc
        rcases nil_cases ct cq v with ⟨rfl, rfl, rfl, hnil⟩ | ⟨hnil, hcase⟩
        · have HNL := Lib.hid hnil
          clear hnil
          go_wp2_with (go_at_call 174; refine (l1In_any _ _ _ _).mono ?_; rintro e w' ⟨rfl, rfl⟩)
          refine wp_region_after (by kernel_rfl) (by kernel_rfl) ?_
          repeat (first | go_big_quiet_step ((go_at_call 161; exact after_of (l4Zero_yes _))) | quiet_step ((go_at_call 161; exact after_of (l4Zero_yes _))))
          refine wpQuiet_nil ?_
          intro pw
          go_wp2
          go_ret
          exact ⟨by rw [hs.out, HI.out, HNL.out]; rfl, bel_trans E2 pw.bel⟩
        · have HNL := Lib.hid hnil
          clear hnil
          rcases hcase with h1 | ⟨h1, h2⟩ | ⟨rfl, rfl, h2⟩
          · go_wp2_with (go_at_call 174; refine (l1In_any _ _ _ _).mono ?_; rintro e w' ⟨rfl, rfl⟩)
            refine wp_region_after (by kernel_rfl) (by kernel_rfl) ?_
            repeat (first | go_big_quiet_step (first | (go_at_call 161; exact after_of (l4Zero_no ct cq (.inl h1) _)) | (go_at_call 137; exact after_of (l4Ready_is x ct cq v _)) | (go_at_call 199; exact after_of (specCertB_is HC.out _ n cap _ m pcap _ HM.out (rowAfter HR2.out _) hN.out (pairsAfter HP2.out _)))) | quiet_step (first | (go_at_call 161; exact after_of (l4Zero_no ct cq (.inl h1) _)) | (go_at_call 137; exact after_of (l4Ready_is x ct cq v _)) | (go_at_call 199; exact after_of (specCertB_is HC.out _ n cap _ m pcap _ HM.out (rowAfter HR2.out _) hN.out (pairsAfter HP2.out _)))))
            refine wpQuiet_nil ?_
            intro pw
            go_wp2
            go_ret
            exact ⟨by rw [hs.out, HI.out, HNL.out, HC.out]; rfl, bel_trans E2 pw.bel⟩
          · go_wp2_with (go_at_call 174; refine (l1In_any _ _ _ _).mono ?_; rintro e w' ⟨rfl, rfl⟩)
            refine wp_region_after (by kernel_rfl) (by kernel_rfl) ?_
            repeat (first | go_big_quiet_step (first | (go_at_call 161; exact after_of (l4Zero_no ct cq (.inr ⟨h1, h2⟩) _)) | (go_at_call 137; exact after_of (l4Ready_is x ct cq v _)) | (go_at_call 199; exact after_of (specCertB_is HC.out _ n cap _ m pcap _ HM.out (rowAfter HR2.out _) hN.out (pairsAfter HP2.out _)))) | quiet_step (first | (go_at_call 161; exact after_of (l4Zero_no ct cq (.inr ⟨h1, h2⟩) _)) | (go_at_call 137; exact after_of (l4Ready_is x ct cq v _)) | (go_at_call 199; exact after_of (specCertB_is HC.out _ n cap _ m pcap _ HM.out (rowAfter HR2.out _) hN.out (pairsAfter HP2.out _)))))
            refine wpQuiet_nil ?_
            intro pw
            go_wp2
            go_ret
            exact ⟨by rw [hs.out, HI.out, HNL.out, HC.out]; rfl, bel_trans E2 pw.bel⟩
          · go_wp2_with (go_at_call 174; refine (l1In_any _ _ _ _).mono ?_; rintro e w' ⟨rfl, rfl⟩)
            refine wp_region_after (by kernel_rfl) (by kernel_rfl) ?_
            repeat (first | go_big_quiet_step (first | (go_at_call 161; exact after_of (l4Zero_yes _)) | (go_at_call 137; exact after_of (l4Ready_is x 0 0 v _)) | (go_at_call 199; exact after_of (specCertB_is HC.out _ n cap _ m pcap _ HM.out (rowAfter HR2.out _) hN.out (pairsAfter HP2.out _)))) | quiet_step (first | (go_at_call 161; exact after_of (l4Zero_yes _)) | (go_at_call 137; exact after_of (l4Ready_is x 0 0 v _)) | (go_at_call 199; exact after_of (specCertB_is HC.out _ n cap _ m pcap _ HM.out (rowAfter HR2.out _) hN.out (pairsAfter HP2.out _)))))
            refine wpQuiet_nil ?_
            intro pw
            go_wp2
            go_ret
            exact ⟨by rw [hs.out, HI.out, HNL.out, HC.out]; rfl, bel_trans E2 pw.bel⟩)

end Go.Proofs.YtjdepjpjjgkmbaaGreat

/- The model's functions of shelves, second part: a shelf that is right: contracts of each of them. -/
namespace Go.Proofs.YtjdepjpjjgkmbaaGreat
open Go.RowKit

theorem sevenGD {w : World} {g g' : Nat} {t t' : TypeId} {v0 v1 v2 v3 v4 u0 u1 : Value} (h : Box w g t #[v0, v1, v2, v3, v4]) (h' : Box w g' t' #[u0, u1]) :
    w.cell? ⟨g, 0, none⟩ = some v0 ∧ w.cell? ⟨g, 1, none⟩ = some v1 ∧ w.cell? ⟨g, 2, none⟩ = some v2 ∧ w.cell? ⟨g, 3, none⟩ = some v3 ∧ w.cell? ⟨g, 4, none⟩ = some v4 ∧ w.cell? ⟨g', 0, none⟩ = some u0 ∧ w.cell? ⟨g', 1, none⟩ = some u1 :=
  ⟨h.cell 0, h.cell 1, h.cell 2, h.cell 3, h.cell 4, h'.cell 0, h'.cell 1⟩
/-- What a certificate tells: its stamp and value are right, and it has a seal. -/
theorem cer_parts {s l c sh : Int} {zs : List Int} {x ct cq v : Int} {ps : List (Int × Int)} (h : cerB s l c sh zs 1 x ct cq v ps = true) : stB ct cq = true ∧ valB v = true ∧ ps ≠ [] := by
  unfold cerB at h
  simp only [Bool.and_eq_true, decide_eq_true_eq] at h
  obtain ⟨⟨hok, _⟩, hq⟩ := h
  have hb := okB_parts hok
  have hq1 : 1 ≤ quoN s l c sh zs := by unfold quoN; rw [if_pos hok]; omega
  have hc : 1 ≤ (goodP (rB s l c sh zs 1 x ct cq v) ps).length := by
    unfold cntN at hq
    omega
  have hle : (goodP (rB s l c sh zs 1 x ct cq v) ps).length ≤ (ps.filter (rB s l c sh zs 1 x ct cq v)).length := puts_le _
  obtain ⟨p, hp⟩ := List.exists_mem_of_length_pos (l := ps.filter (rB s l c sh zs 1 x ct cq v)) (by omega)
  rw [List.mem_filter] at hp
  have hr := hp.2
  simp only [rB, riB, seB, clB, Bool.and_eq_true] at hr
  refine ⟨hr.1.1.1.2, hr.1.1.2, fun e => ?_⟩
  rw [e] at hp
  exact absurd hp.1 (by simp)
/-- The model's spelling of it. -/
def spcB (s l c sh : Int) (zs : List Int) (x ct cq v : Int) (ps : List (Int × Int)) : Bool := stB ct cq && valB v && proB s l c sh zs x ct cq v ps && (if ct = 0 ∧ cq = 0 then decide (v = 0) && decide (ps = []) else decide (ps = goodP (rB s l c sh zs 1 x ct cq v) ps))
theorem lefB_spec (s l c sh : Int) (zs : List Int) (x ct cq v : Int) (ps : List (Int × Int)) : spcB s l c sh zs x ct cq v ps = lefB s l c sh zs x ct cq v ps := by
  unfold lefB spcB
  rcases hp : proB s l c sh zs x ct cq v ps with _ | _
  · simp
  · have hp' := hp
    rw [proB_eq, Bool.and_eq_true, Bool.or_eq_true] at hp'
    rcases hp'.2 with hn | hc
    · have : ct = 0 ∧ cq = 0 ∧ v = 0 := by
        rcases nil_cases ct cq v with ⟨h1, h2, h3, _⟩ | ⟨h, _⟩
        · exact ⟨h1, h2, h3⟩
        · rw [h] at hn; cases hn
      obtain ⟨rfl, rfl, rfl⟩ := this
      simp [stB_00, lefS, valB, inB]
    · obtain ⟨h1, h2, h3⟩ := cer_parts hc
      rw [h1, h2]
      unfold lefS
      by_cases hz : ct = 0 ∧ cq = 0
      · rw [if_pos hz, if_pos hz]
        simp [h3]
      · rw [if_neg hz, if_neg hz]
        rfl

theorem specValR_is {x : Int} {b : Bool} (h : valB x = b) (w : World) : Calls Tryz.prog 196 #[.int .i64 x] w fun e w' => e = .returned (.bool b) ∧ w = w' := by
  subst h
  go_enter Tryz.func196, Tryz.ntmps196
  go_wp2_with (go_at_call 174; refine (l1In_any _ _ _ _).mono ?_; rintro e w' ⟨rfl, rfl⟩)
  go_ret
  exact ⟨rfl, rfl⟩
theorem specClientR_is {s l c sh : Int} {zs : List Int} {x : Int} {b : Bool} (h : cliB s l c sh zs x = b) (A : Option Addr) (n cap : Nat) (w : World) (hm : n ≤ maxLen) (hr : Row w w.heap.size A n zs) :
    Calls Tryz.prog 194 #[.agg #[.int .i64 s, .int .i64 l, .int .i64 c, .int .i64 sh, .slice A n cap], .int .i64 x] w fun e w' => e = .returned (.bool b) ∧ Below w.heap.size w w' := h ▸ specClient_any s l c sh A n cap zs x w hm hr
theorem specStampR_is {c k : Int} {b : Bool} (h : stB c k = b) (w : World) : Calls Tryz.prog 195 #[.agg #[.int .i64 c, .int .i64 k]] w fun e w' => e = .returned (.bool b) ∧ Below w.heap.size w w' := h ▸ specStampOk_any c k w
theorem specProvenR_is {s l c sh : Int} {zs : List Int} {x ct cq v : Int} {ps : List (Int × Int)} {b : Bool} (hb : proB s l c sh zs x ct cq v ps = b) (A : Option Addr) (n cap : Nat) (P : Option Addr) (m pcap : Nat) (w : World) (hm : n ≤ maxLen) (hr : Row w w.heap.size A n zs) (hn : m ≤ 4194304) (h : Pairs w w.heap.size P m ps) :
    Calls Tryz.prog 152 #[.agg #[.int .i64 s, .int .i64 l, .int .i64 c, .int .i64 sh, .slice A n cap], .int .i64 x, .agg #[.int .i64 ct, .int .i64 cq], .int .i64 v, .slice P m pcap] w fun e w' => e = .returned (.bool b) ∧ Below w.heap.size w w' := hb ▸ specProven_is s l c sh A n cap zs x ct cq v P m pcap ps w hm hr hn h

set_option maxHeartbeats 1000000 in
theorem l7Open_is (s l c sh : Int) (A : Option Addr) (n cap : Nat) (zs : List Int) (k t y v : Int) (w : World) (hm : n ≤ maxLen) (hr : Row w w.heap.size A n zs) :
    Calls Tryz.prog 180 #[.agg #[.int .i64 s, .int .i64 l, .int .i64 c, .int .i64 sh, .slice A n cap], .agg #[.int .i64 k, .int .i64 t, .int .i64 y, .int .i64 v]] w fun e w' => e = .returned (.bool (opnB s l c sh zs (k, t, y, v))) ∧ Below w.heap.size w w' := by
  have D := Box.new (w.alloc (.cells #[.int .i64 s, .int .i64 l, .int .i64 c, .int .i64 sh, .slice A n cap] 26)) 97 #[.int .i64 k, .int .i64 t, .int .i64 y, .int .i64 v]
  have E := bel_trans (bel_alloc w (.cells #[.int .i64 s, .int .i64 l, .int .i64 c, .int .i64 sh, .slice A n cap] 26)) (bel_alloc _ (.cells #[.int .i64 k, .int .i64 t, .int .i64 y, .int .i64 v] 97))
  simp only [World.size_alloc] at D
  have HR := Lib.hid ((hr.below E (Nat.le_refl _)).more E.size)
  have HM := Lib.hid hm
  clear hr hm
  rcases hcl : cliB s l c sh zs k with _ | _
  · have HV := Lib.hid (opn_1 (t := t) (y := y) (v := v) hcl)
    have HC := Lib.hid hcl
    clear hcl
    go_enter Tryz.func180, Tryz.ntmps180
    go_wp2_with fail
    generalize ((w.alloc _).alloc _ : World) = w0 at D E HR ⊢
    refine (specClientR_is HC.out A n cap w0 HM.out HR.out).mono ?_
    rintro e w1 ⟨rfl, hb1⟩
    go_wp2
    go_ret
    exact ⟨by rw [HV.out]; rfl, bel_trans E hb1⟩
  · have HC := Lib.hid hcl
    clear hcl
    go_enter Tryz.func180, Tryz.ntmps180
    go_wp2_with fail
    generalize ((w.alloc _).alloc _ : World) = w0 at D E HR ⊢
    refine (specClientR_is HC.out A n cap w0 HM.out HR.out).mono ?_
    rintro e w1 ⟨rfl, hb1⟩
    have D1 := D.later hb1 D.lt
    have E1 := bel_trans E hb1
    clear D E HR hb1
    obtain ⟨d0, d1, d2, d3⟩ := D1.four
    rcases h4 : stB t y with _ | _
    · have HV := Lib.hid (opn_4 (s := s) (l := l) (c := c) (sh := sh) (zs := zs) (k := k) (v := v) h4)
      have H4 := Lib.hid h4
      clear h4
      go_wp2_with (go_at_call 195; refine (specStampR_is H4.out _).mono ?_; rintro e w2 ⟨rfl, hb2⟩; have E2 := bel_trans E1 hb2)
      go_ret
      exact ⟨by rw [HV.out]; rfl, E2⟩
    · have H4 := Lib.hid h4
      go_wp2_with fail
      refine (specStampR_is H4.out w1).mono ?_
      rintro e w2 ⟨rfl, hb2⟩
      have E2 := bel_trans E1 hb2
      have D2 := D1.later hb2 D1.lt
      clear D1 E1 hb2 d0 d1 d2 d3
      obtain ⟨d0, d1, d2, d3⟩ := D2.four
      by_cases h3 : 1 ≤ t
      · have h3' : 0 < t := by omega
        by_cases h2 : y = k
        · subst h2
          have HV := Lib.hid (opn_5 (v := v) HC.out h3 h4)
          clear h4
          rcases h5 : valB v with _ | _
          all_goals
            have H5 := Lib.hid h5
            clear h5
            go_wp2_with (go_at_call 196; refine (specValR_is H5.out _).mono ?_; rintro e w3 ⟨rfl, rfl⟩)
            go_ret
            exact ⟨by rw [HV.out, H5.out]; rfl, E2⟩
        · have h2' : (y == k) = false := by simpa using h2
          have HV := Lib.hid (opn_2 (s := s) (l := l) (c := c) (sh := sh) (zs := zs) (t := t) (v := v) h2)
          clear h4
          go_wp2
          go_ret
          exact ⟨by rw [HV.out]; rfl, E2⟩
      · have h3' : ¬ 0 < t := by omega
        have HV := Lib.hid (opn_3 (s := s) (l := l) (c := c) (sh := sh) (zs := zs) (k := k) (y := y) (v := v) h3)
        clear h4
        go_wp2
        go_ret
        exact ⟨by rw [HV.out]; rfl, E2⟩
theorem l7OpenB_is {s l c sh : Int} {zs : List Int} {k t y v : Int} {b : Bool} (h : opnB s l c sh zs (k, t, y, v) = b) (A : Option Addr) (n cap : Nat) (w : World) (hm : n ≤ maxLen) (hr : Row w w.heap.size A n zs) :
    Calls Tryz.prog 180 #[.agg #[.int .i64 s, .int .i64 l, .int .i64 c, .int .i64 sh, .slice A n cap], .agg #[.int .i64 k, .int .i64 t, .int .i64 y, .int .i64 v]] w fun e w' => e = .returned (.bool b) ∧ Below w.heap.size w w' := h ▸ l7Open_is s l c sh A n cap zs k t y v w hm hr

set_option maxHeartbeats 2000000 in
theorem l7Like_is (A A' : Option Addr) (n cap n' cap' : Nat) (ps qs : List (Int × Int)) (w : World) (hm : n ≤ 4194304) (hm' : n' ≤ 4194304) (hr : Pairs w w.heap.size A n ps) (hr' : Pairs w w.heap.size A' n' qs) :
    Calls Tryz.prog 219 #[.slice A n cap, .slice A' n' cap'] w fun e w' => e = .returned (.bool (decide (ps = qs))) ∧ Below w.heap.size w w' := by
  by_cases hnn : n = n'
  · subst hnn
    have HL := Lib.hid hr.1
    have HL' := Lib.hid hr'.1
    have HR := Lib.hid hr
    have HR' := Lib.hid hr'
    clear hr hr'
    go_enter Tryz.func219, Tryz.ntmps219
    go_wp2_with fail
    go_loopw [5] (fun i wr => ∃ k : Nat, k ≤ n ∧ i = .int .i64 k ∧ (∀ j, j < k → pth ps j = pth qs j) ∧ Below w.heap.size w wr) (fun i _ => n - (intOf i).toNat)
    case atStart => exact ⟨0, Nat.zero_le _, rfl, fun j hj => absurd hj (by omega), Below.refl _ _⟩
    case round =>
      obtain ⟨k, hk, rfl, heq, hb⟩ := hrel
      by_cases hlt : k < n
      · obtain ⟨b, o, hA, hbB, hcell⟩ := HR.out.2 (by omega)
        obtain ⟨b', o', hA', hbB', hcell'⟩ := HR'.out.2 (by omega)
        subst hA hA'
        obtain ⟨g0, g1⟩ := hcell k hlt
        obtain ⟨h0, h1⟩ := hcell' k hlt
        have hz := hb.size
        have g0 := After.cell (w := wr) (a := ⟨b, o + k * 2, none⟩) (by simp; omega) ((hb.cell (p := ⟨b, o + k * 2, none⟩) hbB).trans g0)
        have g1 := After.cell (w := wr) (a := ⟨b, o + k * 2 + 1, none⟩) (by simp; omega) ((hb.cell (p := ⟨b, o + k * 2 + 1, none⟩) hbB).trans g1)
        have h0 := After.cell (w := wr) (a := ⟨b', o' + k * 2, none⟩) (by simp; omega) ((hb.cell (p := ⟨b', o' + k * 2, none⟩) hbB').trans h0)
        have h1 := After.cell (w := wr) (a := ⟨b', o' + k * 2 + 1, none⟩) (by simp; omega) ((hb.cell (p := ⟨b', o' + k * 2 + 1, none⟩) hbB').trans h1)
        generalize hx : pth ps k = x at g0 g1
        generalize hy : pth qs k = y at h0 h1
        obtain ⟨x, x'⟩ := x
        obtain ⟨y, y'⟩ := y
        have HX := Lib.hid hx
        have HY := Lib.hid hy
        replace heq := Lib.hid heq
        have hlt' : (k : Int) < (n : Int) := by omega
        clear hcell hcell' hx hy
        by_cases e1 : x = y
        · subst e1
          by_cases e2 : x' = y'
          · subst e2
            have hst := Lib.hid (show ∀ j, j < k + 1 → pth ps j = pth qs j from fun j hj => by
              by_cases ej : j = k
              · subst ej; rw [HX.out, HY.out]
              · exact heq.out j (by omega))
            go_wp2_with fail
            refine wp_region_after (by kernel_rfl) (by kernel_rfl) ?_
            repeat (first | go_big_quiet_step (fail) | quiet_step (fail))
            refine wpQuiet_nil ?_
            intro pw
            have E3 := bel_trans hb pw.bel
            go_wp2
            go_roundw
            case rel => exact ⟨k + 1, by omega, by go_num, hst.out, E3⟩
            case measure => simp [intOf]; omega
          · have e2' : (x' == y') = false := by simpa using e2
            have HF : Hid (decide (ps = qs) = false) := Lib.hid (decide_eq_false fun h => e2 (by have a := HX.out; rw [h, HY.out] at a; injection a with _ a; exact a.symm))
            go_wp2_with fail
            refine wp_region_after (by kernel_rfl) (by kernel_rfl) ?_
            repeat (first | go_big_quiet_step (fail) | quiet_step (fail))
            refine wpQuiet_nil ?_
            intro pw
            have E3 := bel_trans hb pw.bel
            go_wp2
            go_ret
            exact ⟨by rw [HF.out]; rfl, E3⟩
        · have e1' : (x == y) = false := by simpa using e1
          have HF : Hid (decide (ps = qs) = false) := Lib.hid (decide_eq_false fun h => e1 (by have a := HX.out; rw [h, HY.out] at a; injection a with a _; exact a.symm))
          go_wp2_with fail
          refine wp_region_after (by kernel_rfl) (by kernel_rfl) ?_
          repeat (first | go_big_quiet_step (fail) | quiet_step (fail))
          refine wpQuiet_nil ?_
          intro pw
          have E3 := bel_trans hb pw.bel
          go_wp2
          go_ret
          exact ⟨by rw [HF.out]; rfl, E3⟩
      · obtain rfl : k = n := by omega
        have HF : Hid (decide (ps = qs) = true) := Lib.hid (decide_eq_true (pth_ext (by rw [HL.out, HL'.out]) fun j hj => heq j (by rw [← HL.out]; exact hj)))
        replace heq := Lib.hid heq
        go_wp2
        go_ret
        exact ⟨by rw [HF.out]; rfl, hb⟩
  · have hne : ((n : Int) != (n' : Int)) = true := by simp; omega
    have HF : Hid (decide (ps = qs) = false) := Lib.hid (decide_eq_false fun h => hnn (by rw [← hr.1, ← hr'.1, h]))
    clear hr hr'
    go_enter Tryz.func219, Tryz.ntmps219
    go_wp2
    go_ret
    exact ⟨by rw [HF.out]; rfl, Below.refl _ _⟩


set_option maxRecDepth 100000 in
set_option maxHeartbeats 2000000 in
theorem l7Proven_is (s l c sh : Int) (A : Option Addr) (n cap : Nat) (zs : List Int) (x ct cq v : Int) (P : Option Addr) (m pcap : Nat) (ps : List (Int × Int)) (w : World) (hm : n ≤ maxLen) (hr : Row w w.heap.size A n zs) (hn : m ≤ 4194304) (h : Pairs w w.heap.size P m ps) :
    Calls Tryz.prog 181 #[.agg #[.int .i64 s, .int .i64 l, .int .i64 c, .int .i64 sh, .slice A n cap], .int .i64 x, .agg #[.int .i64 ct, .int .i64 cq], .int .i64 v, .slice P m pcap] w fun e w' => e = .returned (.bool (lefB s l c sh zs x ct cq v ps)) ∧ Below w.heap.size w w' := by
  rw [← lefB_spec]
  have G := (Box.new w 26 #[.int .i64 s, .int .i64 l, .int .i64 c, .int .i64 sh, .slice A n cap]).alloc (.cells #[.int .i64 ct, .int .i64 cq] 39)
  have D := Box.new (w.alloc (.cells #[.int .i64 s, .int .i64 l, .int .i64 c, .int .i64 sh, .slice A n cap] 26)) 39 #[.int .i64 ct, .int .i64 cq]
  have E := bel_trans (bel_alloc w (.cells #[.int .i64 s, .int .i64 l, .int .i64 c, .int .i64 sh, .slice A n cap] 26)) (bel_alloc _ (.cells #[.int .i64 ct, .int .i64 cq] 39))
  simp only [World.size_alloc] at D
  have HR := Lib.hid hr
  have HP := Lib.hid h
  have HL := Lib.hid h.1
  have HM := Lib.hid hm
  clear hr hm h
  go_enter Tryz.func181, Tryz.ntmps181
  go_wp2_with fail
  generalize ((w.alloc _).alloc _ : World) = w0 at D G E ⊢
  rcases h1 : stB ct cq with _ | _
  · have H1 := Lib.hid h1
    clear h1
    refine (specStampR_is H1.out w0).mono ?_
    rintro e w1 ⟨rfl, hb1⟩
    have E1 := bel_trans E hb1
    go_wp2
    go_ret
    exact ⟨by unfold spcB; rw [H1.out]; rfl, E1⟩
  have H1 := Lib.hid h1
  clear h1
  refine (specStampR_is H1.out w0).mono ?_
  rintro e w1 ⟨rfl, hb1⟩
  have E1 := bel_trans E hb1
  have G1 := G.later hb1 G.lt
  have D1 := D.later hb1 D.lt
  clear E G D hb1
  obtain ⟨d0, d1⟩ := D1.two
  obtain ⟨g0, g1, g2, g3, g4⟩ := G1.five
  rcases h2 : valB v with _ | _
  · have H2 := Lib.hid h2
    clear h2
    go_wp2_with (go_at_call 196; refine (specValR_is H2.out _).mono ?_; rintro e w3 ⟨rfl, rfl⟩)
    go_ret
    exact ⟨by unfold spcB; rw [H1.out, H2.out]; rfl, E1⟩
  have H2 := Lib.hid h2
  clear h2
  go_wp2_with fail
  refine (specValR_is H2.out w1).mono ?_
  rintro e w1' ⟨rfl, rfl⟩
  rcases h3 : proB s l c sh zs x ct cq v ps with _ | _
  · have H3 := Lib.hid h3
    clear h3
    go_wp2_with fail
    refine (specProvenR_is H3.out A n cap P m pcap w1 HM.out ((HR.out.below E1 (Nat.le_refl _)).more E1.size) hn (HP.out.later E1)).mono ?_
    rintro e w2 ⟨rfl, hb2⟩
    have E2 := bel_trans E1 hb2
    go_wp2
    go_ret
    exact ⟨by unfold spcB; rw [H1.out, H2.out, H3.out]; rfl, E2⟩
  have H3 := Lib.hid h3
  clear h3
  go_wp2_with fail
  refine (specProvenR_is H3.out A n cap P m pcap w1 HM.out ((HR.out.below E1 (Nat.le_refl _)).more E1.size) hn (HP.out.later E1)).mono ?_
  rintro e w2 ⟨rfl, hb2⟩
  have E2 := bel_trans E1 hb2
  have G2 := G1.later hb2 G1.lt
  have D2 := D1.later hb2 D1.lt
  clear E1 G1 D1 hb2 d0 d1 g0 g1 g2 g3 g4
  obtain ⟨d0, d1⟩ := D2.two
  rcases zero_cases ct cq with ⟨rfl, rfl⟩ | ⟨hcase, hnz⟩
  · go_wp2_with fail
    refine (l4Zero_yes w2).mono ?_
    rintro e w3 ⟨rfl, hb3⟩
    have E3 := bel_trans E2 hb3
    by_cases hv : v = 0
    · subst hv
      by_cases hz : m = 0
      · subst hz
        have hps : Hid (ps = []) := Lib.hid (List.length_eq_zero_iff.1 HL.out)
        go_wp2
        go_ret
        exact ⟨by unfold spcB; rw [H1.out, H2.out, H3.out, hps.out]; simp, E3⟩
      · have hm0 : ((m : Int) == 0) = false := by simp; exact hz
        have hps : Hid (ps ≠ []) := Lib.hid (fun e => hz (by rw [← HL.out, e]; rfl))
        go_wp2
        go_ret
        exact ⟨by unfold spcB; rw [H1.out, H2.out, H3.out]; have := hps.out; simp [this], E3⟩
    · have hv' : (v == 0) = false := by simpa using hv
      go_wp2
      go_ret
      exact ⟨by unfold spcB; rw [H1.out, H2.out, H3.out]; simp [hv], E3⟩
  · have HZ := Lib.hid (l4Zero_no ct cq hcase)
    have HN := Lib.hid hnz
    clear hcase hnz
    go_wp2_with fail
    refine (HZ.out w2).mono ?_
    rintro e w3 ⟨rfl, hb3⟩
    have E3 := bel_trans E2 hb3
    have G3 := G2.later hb3 G2.lt
    have D3 := D2.later hb3 D2.lt
    have R3 := (HR.out.below E3 (Nat.le_refl _)).more E3.size
    have P3 := HP.out.later E3
    clear E2 G2 D2 hb3 d0 d1
    obtain ⟨d0, d1⟩ := D3.two
    obtain ⟨g0, g1, g2, g3, g4⟩ := G3.five
    obtain ⟨J, hJ⟩ : ∃ J, goodP (rB s l c sh zs 1 x ct cq v) ps = J := ⟨_, rfl⟩
    have hJl : J.length ≤ 4194304 := by
      rw [← hJ]
      have := goodP_le (rB s l c sh zs 1 x ct cq v) ps
      rw [HL.out] at this
      omega
    replace hJ := Lib.hid hJ
    go_wp2_with fail
    go_region_held3 (fun w' => w'.cell? ⟨w.heap.size, 0, none⟩ = some (.int .i64 s) ∧ w'.cell? ⟨w.heap.size, 1, none⟩ = some (.int .i64 l) ∧ w'.cell? ⟨w.heap.size, 2, none⟩ = some (.int .i64 c) ∧ w'.cell? ⟨w.heap.size, 3, none⟩ = some (.int .i64 sh) ∧ w'.cell? ⟨w.heap.size, 4, none⟩ = some (.slice A n cap) ∧ w'.cell? ⟨w.heap.size + 1, 0, none⟩ = some (.int .i64 ct) ∧ w'.cell? ⟨w.heap.size + 1, 1, none⟩ = some (.int .i64 cq))
      (first | (with_reducible exact K6) | (with_reducible exact K5) | (with_reducible exact K4) | go_keep)
      (first
        | (go_at_call 137; refine (l4Ready_is x ct cq v _).mono ?_; rintro e w4 ⟨rfl, hb4⟩; have F4 := bel_drew' hb4; have R4 := (R3.below F4 (Nat.le_refl _)).more F4.size; have P4 := P3.later F4; have K4 := sevenGD (G3.later F4 G3.lt) (D3.later F4 D3.lt))
        | (go_at_call 220; refine (specGood_is s l c sh A n cap zs 1 x ct cq v P m pcap ps _ HM.out R4 hn P4).mono ?_; rintro e w5 ⟨q5, c5, rfl, hw5, hb5⟩; rw [hJ.out] at hw5; have F5 := bel_trans F4 hb5; have P5 := P4.later hb5; have K5 := sevenGD (G3.later F5 G3.lt) (D3.later F5 D3.lt))
        | (go_at_call 219; rw [hJ.out]; refine (l7Like_is P _ m pcap J.length c5 ps J _ hn hJl P5 hw5).mono ?_; rintro e w6 ⟨rfl, hb6⟩; have F6 := bel_trans F5 hb6; have K6 := sevenGD (G3.later F6 G3.lt) (D3.later F6 D3.lt)))
    have E6 := bel_trans E3 F6
    clear K4 K5 K6 d0 d1 g0 g1 g2 g3 g4
    go_wp2
    go_ret
    exact ⟨by unfold spcB; rw [H1.out, H2.out, H3.out, if_neg HN.out, hJ.out]; rfl, E6⟩

end Go.Proofs.YtjdepjpjjgkmbaaGreat

/- The model's RegOk: its contract. -/
namespace Go.Proofs.YtjdepjpjjgkmbaaGreat
open Go.RowKit

end Go.Proofs.YtjdepjpjjgkmbaaGreat

/- The model's l4Put and GoodSeals once more: what they answer is a row of the call's own (written by spec_own.py). -/
namespace Go.Proofs.YtjdepjpjjgkmbaaGreat
open Go.RowKit

/-- What is answered: a row of one's own, from base on. -/
def GivesO (base : Nat) (w : World) (ps : List (Int × Int)) (e : Ending) (w' : World) : Prop :=
  ∃ g cap, e = .returned (.slice (some ⟨g, 0, none⟩) ps.length cap) ∧ w'.ownsRow base 136 2 (.slice (some ⟨g, 0, none⟩) ps.length cap) ps.length (flatP ps) ∧ Below w.heap.size w w'

set_option maxRecDepth 100000 in
set_option maxHeartbeats 2000000 in
theorem putO_is (base g cap : Nat) (l : List (Int × Int)) (x t : Int) (w : World) (hn : l.length ≤ 4194304) (hbase : base ≤ w.heap.size) (hO : w.ownsRow base 136 2 (.slice (some ⟨g, 0, none⟩) l.length cap) l.length (flatP l)) :
    Calls Tryz.prog 238 #[.slice (some ⟨g, 0, none⟩) l.length cap, .agg #[.int .i64 x, .int .i64 t]] w (GivesO base w (put l (x, t))) := by
  have h := own_pairs hO
  have HO := Lib.hid hO
  clear hO
  obtain ⟨i0, hi0, hz0, hz1, hz2⟩ := info_parts Tryz.infoSealI
  have K0 : PutAt w ((w.alloc (.cells #[.int .i64 x, .int .i64 t] 136)).alloc (.cells #[] 136)) x t (w.heap.size + 1) 0 [] := by
    refine ⟨⟨rfl, .inr ⟨w.heap.size + 1, 0, #[], rfl, Nat.le_refl _, ?_, Nat.le_refl _, Nat.zero_le _, rfl, rfl⟩⟩, bel_trans (bel_alloc _ _) (bel_alloc _ _), (Box.new w _ _).alloc _⟩
    have := Box.new (w.alloc (.cells #[.int .i64 x, .int .i64 t] 136)) 136 #[]
    simp only [World.size_alloc] at this
    exact this
  have HP := Lib.hid h
  obtain ⟨n, hnl⟩ : ∃ n, l.length = n := ⟨_, rfl⟩
  have K1 : ∀ k, k < n → l.take (k + 1) = l.take k ++ [pth l k] := fun k hk => by
    rw [List.take_succ_eq_append_getElem (by omega), pth_lt (by omega)]
  have K1 := Lib.hid K1
  rw [hnl] at hn ⊢
  have hnl := Lib.hid hnl
  rename_i q1 q2
  clear h q1 q2
  go_enter Tryz.func238, Tryz.ntmps238
  go_wp2_with fail
  generalize ((w.alloc _).alloc _ : World) = w1 at K0 ⊢
  go_loopw [5, 6, 7] (fun ov bv iv wr => ∃ (k q cap' : Nat) (o : List (Int × Int)) (b : Bool), k ≤ n ∧ iv = .int .i64 k ∧ bv = .bool b ∧ ov = .slice (some ⟨q, 0, none⟩) o.length cap' ∧ PutAt w wr x t q cap' o ∧ o.length ≤ k + 1 ∧ (∀ p ∈ l.take k, p.1 ≠ x) ∧
      ((b = false ∧ o = l.take k ∧ ∀ p ∈ l.take k, p.1 ≤ x) ∨ (b = true ∧ o = ins (l.take k) (x, t) ∧ ∃ p ∈ l.take k, x < p.1))) (fun _ _ i _ => n - (intOf i).toNat)
  case atStart => exact ⟨0, _, 0, [], false, Nat.zero_le _, rfl, rfl, rfl, K0, by simp, by simp, .inl ⟨rfl, by simp, by simp⟩⟩
  case round =>
    obtain ⟨k, q, cap', o, b, hk, rfl, rfl, rfl, hP, hol, hne, hcase⟩ := hrel
    by_cases hlt : k < n
    · have hlt' : (k : Int) < (n : Int) := by omega
      obtain ⟨b', o', hA, hbB, hcell⟩ := HP.out.2 (by have := hnl.out; omega)
      cases hA
      obtain ⟨c0, c1⟩ := hcell k (by have := hnl.out; omega)
      rw [Nat.zero_add] at c0 c1
      have c0 := (hP.bel.cell (p := ⟨g, k * 2, none⟩) hbB).trans c0
      have c1 := (hP.bel.cell (p := ⟨g, k * 2 + 1, none⟩) hbB).trans c1
      have hst := Lib.hid (K1.out k hlt)
      generalize hy : pth l k = y at c0 c1 hst
      obtain ⟨y, y'⟩ := y
      obtain ⟨s0, s1⟩ := hP.box.two
      have hgl : g < wr.heap.size := Nat.lt_of_lt_of_le hbB hP.bel.size
      have hq := (hP.own.lt q rfl)
      have g0 := After.cell (by exact hgl) c0
      have g1 := After.cell (by exact hgl) c1
      have e0 := After.cell (by exact hP.box.lt) s0
      have e1 := After.cell (by exact hP.box.lt) s1
      have hy := Lib.hid hy
      have hcase := Lib.hid hcase
      have hne := Lib.hid hne
      have hPP := Lib.hid hP
      rename_i q1 q2 q3
      clear q1 q2 q3 hcell c0 c1 s0 s1 hP
      by_cases hyx : y = x
      · subst hyx
        have hhas : put l (y, t) = l := by
          have : has l y = true := has_mem.2 ⟨pth l k, by rw [pth_lt (by have := hnl.out; omega)]; exact List.getElem_mem _, by rw [hy.out]⟩
          simp [put, this]
        rw [hhas]
        go_wp2_with fail
        refine wp_region_after (by kernel_rfl) (by kernel_rfl) ?_
        repeat (first | go_big_quiet_step (fail) | quiet_step (fail))
        refine wpQuiet_nil ?_
        intro pw
        have hP := hPP.out.later pw.bel
        clear g0 g1 e0 e1
        go_wp2
        go_ret
        exact ⟨g, cap, by rw [hnl.out]; rfl, hnl.out ▸ HO.out.kept (grown_bel hP.bel none) (.inr (by intro e; cases e)), hP.bel⟩
      · have hyx' : (y == x) = false := by simp [hyx]
        have hyx := Lib.hid hyx
        rename_i q1
        clear q1
        go_wp2_with fail
        refine wp_region_after (by kernel_rfl) (by kernel_rfl) ?_
        repeat (first | go_big_quiet_step (fail) | quiet_step (fail))
        refine wpQuiet_nil ?_
        intro pw
        have d0 := g0 pw
        have d1 := g1 pw
        have d2 := e0 pw
        have d3 := e1 pw
        have hP := hPP.out.later pw.bel
        clear g0 g1 e0 e1 hPP
        generalize pw.x = w2 at d0 d1 d2 d3 hP ⊢
        have hsz := hP.bel.size
        have hbl := hP.box.lt
        have hgl2 : g < w2.heap.size := Nat.lt_of_lt_of_le hbB hsz
        have g0 := After.cell (by exact hgl2) d0
        have g1 := After.cell (by exact hgl2) d1
        have e0 := After.cell (by exact hbl) d2
        have e1 := After.cell (by exact hbl) d3
        have hPP := Lib.hid hP
        clear d0 d1 d2 d3 hP
        have hne' : ∀ p ∈ l.take (k + 1), p.1 ≠ x := by
          rw [hst.out]
          intro p hp
          rcases List.mem_append.1 hp with e | e
          · exact hne.out p e
          · simp only [List.mem_singleton] at e
            rw [e]
            exact hyx.out
        have hne' := Lib.hid hne'
        rename_i q1
        clear q1
        rcases hcase.out with ⟨rfl, ho, hall⟩ | ⟨rfl, ho, hex⟩
        · have ho := Lib.hid ho
          have hall := Lib.hid hall
          rename_i q1 q2
          clear q1 q2
          by_cases hxy : x < y
          · go_wp2_with fail
            refine wp_region_after (by kernel_rfl) (by kernel_rfl) ?_
            repeat (first | go_big_quiet_step (fail) | quiet_step (fail))
            refine wpQuiet_nil ?_
            intro pw2
            have d0 := g0 pw2
            have d1 := g1 pw2
            have d2 := e0 pw2
            have d3 := e1 pw2
            have hP := hPP.out.later pw2.bel
            clear g0 g1 e0 e1 hPP
            generalize pw2.x = w3 at d0 d1 d2 d3 hP ⊢
            have hq3 := hP.own.lt q rfl
            have hsz3 := hP.bel.size
            have hbx3 := hP.box.lt
            go_wp2_with (first | (at_builtin; refine wpList_append_lies _ rfl _ _ _ rfl (w.heap.size + 1) 136 i0 _ 2 16 Tryz.underlying40 hi0 hz0 hz1 hz2 rfl (by omega) (.slice (some ⟨gg, 0, none⟩) (o.length + 1) cap2) (o.length + 1) (flatP o ++ [.int .i64 x, .int .i64 t]) rfl (hown2.alloc _) ⟨w5.heap.size, 0, none⟩ 1 1 [.int .i64 y, .int .i64 y'] rfl rfl (World.news_of_block (cs := #[.int .i64 y, .int .i64 y']) (t := 136) (fr := (0, 0)) (heap_alloc_new w5 _)) (by simp [Value.oneCell']) (by omega) (by unfold maxLen; omega) (by omega) (by simp; omega) (w5.heap.size + 1) (by simp) ?_; intro g3 cap3 w6 hown3 hgrow3 hat3 hlt3; have hP3 := hP2.push (gg := g3) (cap2 := cap3) (a := y) (b := y') (by simpa [flatP_snoc] using hown3) (by simpa using hgrow3); clear hown3 hgrow3 hat3 hown2) | (at_builtin; refine wpList_append_lies _ rfl _ _ _ rfl (w.heap.size + 1) 136 i0 _ 2 16 Tryz.underlying40 hi0 hz0 hz1 hz2 rfl (by omega) (.slice (some ⟨q, 0, none⟩) (o.length) cap') (o.length) (flatP o) rfl (hP.own.alloc _) ⟨w3.heap.size, 0, none⟩ 1 1 [.int .i64 x, .int .i64 t] rfl rfl (World.news_of_block (cs := #[.int .i64 x, .int .i64 t]) (t := 136) (fr := (0, 0)) (heap_alloc_new w3 _)) (by simp [Value.oneCell']) (by omega) (by unfold maxLen; omega) (by omega) (by simp; omega) (w3.heap.size + 1) (by simp) ?_; intro gg cap2 w5 hown2 hgrow2 hat hlt2; have hP2 := hP.push hown2 hgrow2; have c0 := (hP2.bel.cell (p := ⟨g, k * 2, none⟩) hbB).trans ((hP.bel.cell (p := ⟨g, k * 2, none⟩) hbB).symm.trans d0); have c1 := (hP2.bel.cell (p := ⟨g, k * 2 + 1, none⟩) hbB).trans ((hP.bel.cell (p := ⟨g, k * 2 + 1, none⟩) hbB).symm.trans d1); have hsz5 := hP2.bel.size; have hbx5 := hP2.box.lt; clear hgrow2 hat))
            have hP3 := Lib.hid hP3
            rename_i q1
            clear q1 hP2 hP
            go_roundw
            case rel =>
              have hl2 : (o ++ [(x, t)] ++ [(y, y')]).length = o.length + 1 + 1 := by simp
              exact ⟨k + 1, _, _, o ++ [(x, t)] ++ [(y, y')], true, by omega, by go_num, rfl, by rw [hl2], hP3.out, by rw [hl2, ho.out, List.length_take]; have := hnl.out; omega, hne'.out, .inr ⟨rfl, by rw [hst.out, ins_here hall.out hxy, ho.out], (y, y'), by rw [hst.out]; simp, hxy⟩⟩
            case measure => simp [intOf]; omega
          · have hxy' : y ≤ x := Int.not_lt.1 hxy
            clear hxy
            go_wp2_with fail
            refine wp_region_after (by kernel_rfl) (by kernel_rfl) ?_
            repeat (first | go_big_quiet_step (fail) | quiet_step (fail))
            refine wpQuiet_nil ?_
            intro pw2
            have d0 := g0 pw2
            have d1 := g1 pw2
            have d2 := e0 pw2
            have d3 := e1 pw2
            have hP := hPP.out.later pw2.bel
            clear g0 g1 e0 e1 hPP
            generalize pw2.x = w3 at d0 d1 d2 d3 hP ⊢
            have hq3 := hP.own.lt q rfl
            have hsz3 := hP.bel.size
            have hbx3 := hP.box.lt
            go_wp2_with (at_builtin; refine wpList_append_lies _ rfl _ _ _ rfl (w.heap.size + 1) 136 i0 _ 2 16 Tryz.underlying40 hi0 hz0 hz1 hz2 rfl (by omega) (.slice (some ⟨q, 0, none⟩) (o.length) cap') (o.length) (flatP o) rfl (hP.own.alloc _) ⟨w3.heap.size, 0, none⟩ 1 1 [.int .i64 y, .int .i64 y'] rfl rfl (World.news_of_block (cs := #[.int .i64 y, .int .i64 y']) (t := 136) (fr := (0, 0)) (heap_alloc_new w3 _)) (by simp [Value.oneCell']) (by omega) (by unfold maxLen; omega) (by omega) (by simp; omega) (w3.heap.size + 1) (by simp) ?_; intro gg cap2 w5 hown2 hgrow2 hat hlt2; have hP3 := hP.push hown2 hgrow2; clear hown2 hgrow2 hat)
            have hP3 := Lib.hid hP3
            rename_i q1
            clear q1 hP
            go_roundw
            case rel =>
              exact ⟨k + 1, _, _, o ++ [(y, y')], false, by omega, by go_num, rfl, by simp, hP3.out, by rw [List.length_append, ho.out, List.length_take]; simp; omega, hne'.out, .inl ⟨rfl, by rw [hst.out, ho.out], by
                rw [hst.out]
                intro p hp
                rcases List.mem_append.1 hp with e | e
                · exact hall.out p e
                · simp only [List.mem_singleton] at e
                  rw [e]
                  exact hxy'⟩⟩
            case measure => simp [intOf]; omega
        · have ho := Lib.hid ho
          have hex := Lib.hid hex
          rename_i q1 q2
          clear q1 q2
          go_wp2_with fail
          refine wp_region_after (by kernel_rfl) (by kernel_rfl) ?_
          repeat (first | go_big_quiet_step (fail) | quiet_step (fail))
          refine wpQuiet_nil ?_
          intro pw2
          have d0 := g0 pw2
          have d1 := g1 pw2
          have d2 := e0 pw2
          have d3 := e1 pw2
          have hP := hPP.out.later pw2.bel
          clear g0 g1 e0 e1 hPP
          generalize pw2.x = w3 at d0 d1 d2 d3 hP ⊢
          have hq3 := hP.own.lt q rfl
          have hsz3 := hP.bel.size
          have hbx3 := hP.box.lt
          go_wp2_with (at_builtin; refine wpList_append_lies _ rfl _ _ _ rfl (w.heap.size + 1) 136 i0 _ 2 16 Tryz.underlying40 hi0 hz0 hz1 hz2 rfl (by omega) (.slice (some ⟨q, 0, none⟩) (o.length) cap') (o.length) (flatP o) rfl (hP.own.alloc _) ⟨w3.heap.size, 0, none⟩ 1 1 [.int .i64 y, .int .i64 y'] rfl rfl (World.news_of_block (cs := #[.int .i64 y, .int .i64 y']) (t := 136) (fr := (0, 0)) (heap_alloc_new w3 _)) (by simp [Value.oneCell']) (by omega) (by unfold maxLen; omega) (by omega) (by simp; omega) (w3.heap.size + 1) (by simp) ?_; intro gg cap2 w5 hown2 hgrow2 hat hlt2; have hP3 := hP.push hown2 hgrow2; clear hown2 hgrow2 hat)
          have hP3 := Lib.hid hP3
          rename_i q1
          clear q1 hP
          go_roundw
          case rel =>
            exact ⟨k + 1, _, _, o ++ [(y, y')], true, by omega, by go_num, rfl, by simp, hP3.out, by rw [List.length_append, ho.out, ins_len, List.length_take]; simp; omega, hne'.out, .inr ⟨rfl, by rw [hst.out, ins_snoc hex.out, ho.out], by
              obtain ⟨p, hp, hlt⟩ := hex.out
              exact ⟨p, by rw [hst.out]; simp [hp], hlt⟩⟩⟩
          case measure => simp [intOf]; omega
    · obtain rfl : k = n := by omega
      have hno : has l x = false := has_not.2 (by have := hne; rwa [← hnl.out, List.take_length] at this)
      have hpt : put l (x, t) = ins l (x, t) := by simp [put, hno]
      have hpt := Lib.hid hpt
      have hcase : (b = false ∧ o = l ∧ ∀ p ∈ l, p.1 ≤ x) ∨ (b = true ∧ o = ins l (x, t) ∧ ∃ p ∈ l, x < p.1) := by rwa [← hnl.out, List.take_length] at hcase
      rename_i q1 q2
      clear q1 q2 hno hne
      have hq3 := hP.own.lt q rfl
      have hsz3 := hP.bel.size
      have hbx3 := hP.box.lt
      obtain ⟨s0, s1⟩ := hP.box.two
      rcases hcase with ⟨rfl, ho, hall⟩ | ⟨rfl, ho, hex⟩
      · have ho := Lib.hid ho
        have hall := Lib.hid hall
        rename_i q1 q2
        clear q1 q2
        go_wp2_with (at_builtin; refine wpList_append_lies _ rfl _ _ _ rfl (w.heap.size + 1) 136 i0 _ 2 16 Tryz.underlying40 hi0 hz0 hz1 hz2 rfl (by omega) (.slice (some ⟨q, 0, none⟩) (o.length) cap') (o.length) (flatP o) rfl (hP.own.alloc _) ⟨wr.heap.size, 0, none⟩ 1 1 [.int .i64 x, .int .i64 t] rfl rfl (World.news_of_block (cs := #[.int .i64 x, .int .i64 t]) (t := 136) (fr := (0, 0)) (heap_alloc_new wr _)) (by simp [Value.oneCell']) (by omega) (by unfold maxLen; omega) (by omega) (by simp; omega) (wr.heap.size + 1) (by simp) ?_; intro gg cap2 w5 hown2 hgrow2 hat hlt2; have hP3 := hP.push hown2 hgrow2; clear hown2 hgrow2 hat)
        go_ret
        have e : put l (x, t) = o ++ [(x, t)] := by rw [hpt.out, ins_small hall.out, ho.out]
        rw [e]
        exact ⟨gg, cap2, by rw [List.length_append]; rfl, ownLow hP3.own (by omega), hP3.bel⟩
      · have ho := Lib.hid ho
        have hex := Lib.hid hex
        rename_i q1 q2
        clear q1 q2
        go_wp2
        go_ret
        have e : put l (x, t) = o := by rw [hpt.out, ho.out]
        rw [e]
        exact ⟨_, _, rfl, ownLow hP.own (by omega), hP.bel⟩


set_option maxRecDepth 100000 in
set_option maxHeartbeats 1000000 in
theorem specGoodO_is (s l c sh : Int) (A : Option Addr) (n cap : Nat) (zs : List Int) (ck ch ct cq cv : Int) (P : Option Addr) (m pcap : Nat) (ps : List (Int × Int)) (w : World) (hm : n ≤ maxLen) (hr : Row w w.heap.size A n zs) (hn : m ≤ 4194304) (h : Pairs w w.heap.size P m ps) :
    Calls Tryz.prog 220 #[.agg #[.int .i64 s, .int .i64 l, .int .i64 c, .int .i64 sh, .slice A n cap], .agg #[.int .i64 ck, .int .i64 ch, .int .i64 ct, .int .i64 cq, .int .i64 cv], .slice P m pcap] w (GivesO w.heap.size w (goodP (rB s l c sh zs ck ch ct cq cv) ps)) := by
  have E0 := bel_trans (bel_trans (bel_alloc w (.cells #[.int .i64 s, .int .i64 l, .int .i64 c, .int .i64 sh, .slice A n cap] 26)) (bel_alloc _ (.cells #[.int .i64 ck, .int .i64 ch, .int .i64 ct, .int .i64 cq, .int .i64 cv] 180))) (bel_alloc _ (.cells #[] 136))
  have DG := ((Box.new w 26 #[.int .i64 s, .int .i64 l, .int .i64 c, .int .i64 sh, .slice A n cap]).alloc (.cells #[.int .i64 ck, .int .i64 ch, .int .i64 ct, .int .i64 cq, .int .i64 cv] 180)).alloc (.cells #[] 136)
  have DC := (Box.new (w.alloc (.cells #[.int .i64 s, .int .i64 l, .int .i64 c, .int .i64 sh, .slice A n cap] 26)) 180 #[.int .i64 ck, .int .i64 ch, .int .i64 ct, .int .i64 cq, .int .i64 cv]).alloc (.cells #[] 136)
  simp only [World.size_alloc] at DC
  have O0 : (((w.alloc (.cells #[.int .i64 s, .int .i64 l, .int .i64 c, .int .i64 sh, .slice A n cap] 26)).alloc (.cells #[.int .i64 ck, .int .i64 ch, .int .i64 ct, .int .i64 cq, .int .i64 cv] 180)).alloc (.cells #[] 136)).ownsRow w.heap.size 136 2 (.slice (some ⟨w.heap.size + 1 + 1, 0, none⟩) 0 0) 0 [] := by
    have := own_new ((w.alloc (.cells #[.int .i64 s, .int .i64 l, .int .i64 c, .int .i64 sh, .slice A n cap] 26)).alloc (.cells #[.int .i64 ck, .int .i64 ch, .int .i64 ct, .int .i64 cq, .int .i64 cv] 180)) 136 2
    simp only [World.size_alloc] at this
    exact ownLow this (by omega)
  replace O0 := Lib.hid O0
  have HR := Lib.hid hr
  have HM := Lib.hid hm
  have HP := Lib.hid h
  have hl := Lib.hid h.1
  clear h hr hm
  generalize hR : rB s l c sh zs ck ch ct cq cv = R
  have HRR := Lib.hid hR
  clear hR
  go_enter Tryz.func220, Tryz.ntmps220
  go_wp2_with fail
  generalize (((w.alloc _).alloc _).alloc _ : World) = w1 at E0 DG DC O0 ⊢
  go_loopw [7, 8] (fun ov iv wr => ∃ (k q c' : Nat) (L : List (Int × Int)), k ≤ m ∧ iv = .int .i64 k ∧ ov = .slice (some ⟨q, 0, none⟩) L.length c' ∧ L = goodP R (ps.take k) ∧ wr.ownsRow w.heap.size 136 2 (.slice (some ⟨q, 0, none⟩) L.length c') L.length (flatP L) ∧ Below w.heap.size w wr ∧ Box wr w.heap.size 26 #[.int .i64 s, .int .i64 l, .int .i64 c, .int .i64 sh, .slice A n cap] ∧ Box wr (w.heap.size + 1) 180 #[.int .i64 ck, .int .i64 ch, .int .i64 ct, .int .i64 cq, .int .i64 cv]) (fun _ i _ => m - (intOf i).toNat)
  case atStart => exact ⟨0, _, 0, [], Nat.zero_le _, rfl, rfl, by simp [goodP_nil], O0.out, E0, DG, DC⟩
  case round =>
    obtain ⟨k, q, c', L, hk, rfl, rfl, hL, hp, hbel, DG, DC⟩ := hrel
    by_cases hlt : k < m
    · have hlt' : (k : Int) < (m : Int) := by omega
      obtain ⟨b, o, hA, hbB, hcell⟩ := HP.out.2 (by omega)
      subst hA
      obtain ⟨c0, c1⟩ := hcell k hlt
      replace c0 := (hbel.cell (p := ⟨b, o + k * 2, none⟩) hbB).trans c0
      replace c1 := (hbel.cell (p := ⟨b, o + k * 2 + 1, none⟩) hbB).trans c1
      have hyes := Lib.hid (goodP_yes (R := R) (ps := ps) (k := k) (by rw [hl.out]; exact hlt))
      have hno := Lib.hid (goodP_no (R := R) (ps := ps) (k := k) (by rw [hl.out]; exact hlt))
      rw [← hL] at hyes hno
      have hLl : L.length ≤ 4194304 := by
        rw [hL]
        have := goodP_le R (ps.take k)
        rw [List.length_take] at this
        omega
      generalize hy : pth ps k = y at c0 c1 hyes hno
      obtain ⟨y, y'⟩ := y
      replace hL := Lib.hid hL
      replace hy := Lib.hid hy
      have hbl : b < wr.heap.size := Nat.lt_of_lt_of_le hbB hbel.size
      have g0 := After.cell (by exact hbl) c0
      have g1 := After.cell (by exact hbl) c1
      obtain ⟨f0, f1, f2, f3, f4⟩ := fiveAfter DG
      obtain ⟨f5, f6, f7, f8, f9⟩ := fiveAfter DC
      have hrow := Lib.hid ((HR.out.below hbel (Nat.le_refl _)).more hbel.size)
      have HDG := Lib.hid DG
      have HDC := Lib.hid DC
      have HPL := Lib.hid hp
      clear hcell c0 c1 DG DC hp
      rcases hRy : R (y, y') with _ | _
      · have HY : Hid (rB s l c sh zs ck ch ct cq cv (y, y') = false) := by rw [HRR.out]; exact hRy
        replace hno := Lib.hid (hno.out hRy)
        clear hRy
        go_wp2_with fail
        refine wp_region_after (by kernel_rfl) (by kernel_rfl) ?_
        repeat (first | go_big_quiet_step ((go_at_call 237; exact after_of (specRightB_is HY.out _ n cap _ HM.out (rowAfter hrow.out _)))) | quiet_step ((go_at_call 237; exact after_of (specRightB_is HY.out _ n cap _ HM.out (rowAfter hrow.out _)))))
        refine wpQuiet_nil ?_
        intro pw
        have E2 := bel_trans hbel pw.bel
        have DG := HDG.out.later pw.bel HDG.out.lt
        have DC := HDC.out.later pw.bel HDC.out.lt
        have hp := Lib.hid (HPL.out.kept (grown_bel pw.bel none) (.inr (by intro e; cases e)))
        clear g0 g1 f0 f1 f2 f3 f4 f5 f6 f7 f8 f9
        go_wp2
        go_roundw
        case rel => exact ⟨k + 1, q, c', L, by omega, by go_num, rfl, hno.out.symm, hp.out, E2, DG, DC⟩
        case measure => simp [intOf]; omega
      · have HY : Hid (rB s l c sh zs ck ch ct cq cv (y, y') = true) := by rw [HRR.out]; exact hRy
        replace hyes := Lib.hid (hyes.out hRy)
        clear hRy
        go_wp2_with fail
        refine wp_region_after (by kernel_rfl) (by kernel_rfl) ?_
        repeat (first | go_big_quiet_step ((go_at_call 237; exact after_of (specRightB_is HY.out _ n cap _ HM.out (rowAfter hrow.out _)))) | quiet_step ((go_at_call 237; exact after_of (specRightB_is HY.out _ n cap _ HM.out (rowAfter hrow.out _)))))
        refine wpQuiet_nil ?_
        intro pw
        have E2 := bel_trans hbel pw.bel
        have DG := HDG.out.later pw.bel HDG.out.lt
        have DC := HDC.out.later pw.bel HDC.out.lt
        have hp := HPL.out.kept (grown_bel pw.bel none) (.inr (by intro e; cases e))
        have d0 := g0 pw
        have d1 := g1 pw
        clear g0 g1 f0 f1 f2 f3 f4 f5 f6 f7 f8 f9 HDG HDC HPL
        generalize pw.x = w2 at E2 DG DC hp d0 d1 ⊢
        go_wp2_with fail
        refine (putO_is w.heap.size q c' L y y' w2 hLl E2.size hp).mono ?_
        rintro e w3 ⟨g', c'', rfl, hp', hb'⟩
        replace hp' := Lib.hid hp'
        have DG' := DG.later hb' DG.lt
        have DC' := DC.later hb' DC.lt
        go_wp2
        go_roundw
        case rel => exact ⟨k + 1, g', c'', put L (y, y'), by omega, by go_num, rfl, hyes.out.symm, hp'.out, bel_trans E2 hb', DG', DC'⟩
        case measure => simp [intOf]; omega
    · obtain rfl : k = m := by omega
      rw [← hl.out, List.take_length] at hL
      replace hL := Lib.hid hL
      replace hp := Lib.hid hp
      go_wp2
      go_ret
      rw [← hL.out]
      exact ⟨q, c', rfl, hp.out, hbel⟩


end Go.Proofs.YtjdepjpjjgkmbaaGreat

/- The model's writing on a shelf: its contract. -/
namespace Go.Proofs.YtjdepjpjjgkmbaaGreat
open Go.RowKit

/-- Can it be written? -/
def wrtB (s l c sh : Int) (zs : List Int) (x ct cq v : Int) (cs : List (Int × Int)) : Bool := !decide (ct = 0 ∧ cq = 0) && proB s l c sh zs x ct cq v cs
theorem wrt_parts {s l c sh : Int} {zs : List Int} {x ct cq v : Int} {cs : List (Int × Int)} (h : wrtB s l c sh zs x ct cq v cs = true) : stB ct cq = true ∧ cs.length ≤ 20 ∧ ¬ (ct = 0 ∧ cq = 0) ∧ proB s l c sh zs x ct cq v cs = true := by
  unfold wrtB at h
  simp only [Bool.and_eq_true, Bool.not_eq_true', decide_eq_false_iff_not] at h
  obtain ⟨hz, hp⟩ := h
  have hp' := hp
  rw [proB_eq, Bool.and_eq_true, Bool.or_eq_true] at hp'
  rcases hp'.2 with hn | hc
  · rcases nil_cases ct cq v with ⟨h1, h2, _, _⟩ | ⟨h, _⟩
    · exact absurd ⟨h1, h2⟩ hz
    · rw [h] at hn; cases hn
  · refine ⟨(cer_parts hc).1, ?_, hz, hp⟩
    unfold cerB at hc
    simp only [Bool.and_eq_true, decide_eq_true_eq] at hc
    omega
theorem wrt_zero (s l c sh : Int) (zs : List Int) (x v : Int) (cs : List (Int × Int)) : wrtB s l c sh zs x 0 0 v cs = false := by simp [wrtB]

/-- What the model's writing keeps. -/
structure LW (w wr : World) (S B : Nat) (s l c sh : Int) (A : Option Addr) (n cap : Nat) (rt rq rv : Int) (P : Option Addr) (p pc : Nat) (Q : Option Addr) (q qc : Nat) (ct cq : Int) (u v : Value) (ps : List (Int × Int)) (os : List Opn) : Prop where
  bel : Below w.heap.size w wr
  G : Box wr w.heap.size 26 #[.int .i64 s, .int .i64 l, .int .i64 c, .int .i64 sh, .slice A n cap]
  D : Box wr (w.heap.size + 1) 80 #[.int .i64 rt, .int .i64 rq, .int .i64 rv, .slice P p pc, .slice Q q qc]
  T : Box wr (w.heap.size + 1 + 1) 39 #[.int .i64 ct, .int .i64 cq]
  X : Box wr (w.heap.size + 1 + 1 + 1) 80 #[.int .i64 0, .int .i64 0, .int .i64 0, .slice none 0 0, .slice none 0 0]
  Y : Box wr S 80 #[.int .i64 rt, .int .i64 rq, .int .i64 rv, u, v]
  hlo : w.heap.size + 1 + 1 + 1 < B
  hBS : B ≤ S
  R : ResP wr (w.heap.size + 1 + 1 + 1 + 1) B u ps
  V : ResQ wr B S v os
theorem LW.later {w wr w' : World} {S B : Nat} {s l c sh : Int} {A : Option Addr} {n cap : Nat} {rt rq rv : Int} {P : Option Addr} {p pc : Nat} {Q : Option Addr} {q qc : Nat} {ct cq : Int} {u v : Value} {ps : List (Int × Int)} {os : List Opn} (h : LW w wr S B s l c sh A n cap rt rq rv P p pc Q q qc ct cq u v ps os) (hb : Below wr.heap.size wr w') : LW w w' S B s l c sh A n cap rt rq rv P p pc Q q qc ct cq u v ps os :=
  ⟨bel_trans h.bel hb, h.G.later hb h.G.lt, h.D.later hb h.D.lt, h.T.later hb h.T.lt, h.X.later hb h.X.lt, h.Y.later hb h.Y.lt, h.hlo, h.hBS, h.R.later hb, h.V.later hb⟩
theorem ResQ.farHi {w : World} {lo hi : Nat} {u : Value} {D : List Opn} (h : ResQ w lo hi u D) {b : Nat} (hb : hi ≤ b) (o : Nat) (x : Value) : ResQ (w.setCell ⟨b, o, none⟩ x) lo hi u D := by
  rcases h with h | ⟨g, cap, h1, h2, h3, h4, h5, h6⟩
  · exact .inl h
  · exact .inr ⟨g, cap, h1, h2, h3, h4, h5, h6.far (by omega) o x⟩
/-- What the model's writing keeps, once stamp and value are written. -/
structure LV (w wr : World) (S B : Nat) (s l c sh : Int) (A : Option Addr) (n cap : Nat) (ct cq v : Int) (z u : Value) (os : List Opn) : Prop where
  bel : Below w.heap.size w wr
  G : Box wr w.heap.size 26 #[.int .i64 s, .int .i64 l, .int .i64 c, .int .i64 sh, .slice A n cap]
  T : Box wr (w.heap.size + 1 + 1) 39 #[.int .i64 ct, .int .i64 cq]
  X : Box wr (w.heap.size + 1 + 1 + 1) 80 #[.int .i64 0, .int .i64 0, .int .i64 0, .slice none 0 0, .slice none 0 0]
  Y : Box wr S 80 #[.int .i64 ct, .int .i64 cq, .int .i64 v, z, u]
  hlo : w.heap.size + 1 + 1 + 1 < B
  hBS : B ≤ S
  V : ResQ wr B S u os
theorem LV.later {w wr w' : World} {S B : Nat} {s l c sh : Int} {A : Option Addr} {n cap : Nat} {ct cq v : Int} {z u : Value} {os : List Opn} (h : LV w wr S B s l c sh A n cap ct cq v z u os) (hb : Below wr.heap.size wr w') : LV w w' S B s l c sh A n cap ct cq v z u os :=
  ⟨bel_trans h.bel hb, h.G.later hb h.G.lt, h.T.later hb h.T.lt, h.X.later hb h.X.lt, h.Y.later hb h.Y.lt, h.hlo, h.hBS, h.V.later hb⟩
theorem LV.drew {w wr : World} {S B : Nat} {s l c sh : Int} {A : Option Addr} {n cap : Nat} {ct cq v : Int} {z u : Value} {os : List Opn} (h : LV w wr S B s l c sh A n cap ct cq v z u os) : LV w wr.drew S B s l c sh A n cap ct cq v z u os := h.later ((Below.refl _ _).drew)
theorem LW.put {w wr : World} {S B : Nat} {s l c sh : Int} {A : Option Addr} {n cap : Nat} {rt rq rv : Int} {P : Option Addr} {p pc : Nat} {Q : Option Addr} {q qc : Nat} {ct cq : Int} {u u' : Value} {ps : List (Int × Int)} {os : List Opn} (h : LW w wr S B s l c sh A n cap rt rq rv P p pc Q q qc ct cq u u' ps os) (v : Int) :
    LV w (((wr.setCell ⟨S, 0, none⟩ (.int .i64 ct)).setCell ⟨S, 1, none⟩ (.int .i64 cq)).setCell ⟨S, 2, none⟩ (.int .i64 v)) S B s l c sh A n cap ct cq v u u' os := by
  have hlo := h.hlo
  have hBS := h.hBS
  have hw : w.heap.size ≤ S := by omega
  refine ⟨((h.bel.setCell (p := ⟨S, 0, none⟩) hw _).setCell (p := ⟨S, 1, none⟩) hw _).setCell (p := ⟨S, 2, none⟩) hw _, ?_, ?_, ?_, ((h.Y.set 0 _).set 1 _).set 2 _, hlo, hBS, ((h.V.farHi (Nat.le_refl _) 0 _).farHi (Nat.le_refl _) 1 _).farHi (Nat.le_refl _) 2 _⟩
  · exact ((h.G.far (p := ⟨S, 0, none⟩) (by show S ≠ _; omega) _).far (p := ⟨S, 1, none⟩) (by show S ≠ _; omega) _).far (p := ⟨S, 2, none⟩) (by show S ≠ _; omega) _
  · exact ((h.T.far (p := ⟨S, 0, none⟩) (by show S ≠ _; omega) _).far (p := ⟨S, 1, none⟩) (by show S ≠ _; omega) _).far (p := ⟨S, 2, none⟩) (by show S ≠ _; omega) _
  · exact ((h.X.far (p := ⟨S, 0, none⟩) (by show S ≠ _; omega) _).far (p := ⟨S, 1, none⟩) (by show S ≠ _; omega) _).far (p := ⟨S, 2, none⟩) (by show S ≠ _; omega) _
end Go.Proofs.YtjdepjpjjgkmbaaGreat

/- What the model's draw of a right group leaves: a right group with keys of its own; the cursor is a right one. -/
namespace Go.Proofs.YtjdepjpjjgkmbaaGreat
open Go.RowKit

theorem Tryz.infoI : (Tryz.prog.info? 2).map (fun i => (i.zero, i.size, i.bytes)) = some (some (.int .i64 0), 1, 8) := by kernel_rfl

/-- A list of keys, each from 1 to top. -/
def keysTo (top : Int) (zs : List Int) : Prop := ∀ z ∈ zs, 1 ≤ z ∧ z ≤ top
theorem keysTo_snoc {top : Int} {zs : List Int} {z : Int} (h : keysTo top zs) (h1 : 1 ≤ z) (h2 : z ≤ top) : keysTo top (zs ++ [z]) := fun x hx => by
  rcases List.mem_append.1 hx with hx | hx
  · exact h x hx
  · simp at hx; subst hx; exact ⟨h1, h2⟩

/-- The loop's state: k keys are still to be drawn. -/
structure Keys (t tc : TypeId) (kd : IntKind) (w wr : World) (g G R : Nat) (A : Option Addr) (n cap : Nat) (s l c sh top : Int) (k : Nat) (v : Value) (zs : List Int) : Prop where
  cur : Cur wr tc kd g A n cap
  box : Box wr G t #[.int .i64 s, .int .i64 l, .int .i64 c, .int .i64 sh, v]
  own : wr.ownsRow (G + 1) 2 1 v zs.length (zs.map (Value.int .i64))
  keys : keysTo top zs
  len : (zs.length : Int) + k = s + c
  grown : w.grownBy wr (some g)
  gG : g < G
  big : w.heap.size ≤ G
  res : Box wr R t #[.int .i64 0, .int .i64 0, .int .i64 0, .int .i64 0, .slice none 0 0]
  gR : g < R
  RG : R < G

theorem keys_step {t tc : TypeId} {kd : IntKind} {w wr w1 w2 : World} {g G R : Nat} {A : Option Addr} {n cap : Nat} {s l c sh top z : Int} {k gg cap2 : Nat} {v : Value} {zs : List Int} {o : Obj}
    (h : Keys t tc kd w wr g G R A n cap s l c sh top (k + 1) v zs) (hc1 : Cur w1 tc kd g A n cap) (hg1 : wr.drew.grownBy w1 (some g)) (hz1 : 1 ≤ z) (hz2 : z ≤ top)
    (hown : w2.ownsRow (G + 1) 2 1 (.slice (some ⟨gg, 0, none⟩) (zs.length + 1) cap2) (zs.length + 1) (zs.map (Value.int .i64) ++ [.int .i64 z])) (hg2 : (w1.alloc o).grownBy w2 v.ownBlock) :
    Keys t tc kd w (w2.setCell ⟨G, 4, none⟩ (.slice (some ⟨gg, 0, none⟩) (zs.length + 1) cap2)) g G R A n cap s l c sh top k (.slice (some ⟨gg, 0, none⟩) (zs.length + 1) cap2) (zs ++ [z]) := by
  have hq : ∀ q, v.ownBlock = some q → G + 1 ≤ q := fun q e => (h.own.lt q e).1
  have hgg : G + 1 ≤ gg := (hown.lt gg rfl).1
  have hgG := h.gG
  have hbig := h.big
  have hb2 : Box w2 G t #[.int .i64 s, .int .i64 l, .int .i64 c, .int .i64 sh, v] :=
    ((Box.kept (w := wr.drew) h.box hg1 (by intro e; injection e with e; omega)).alloc o).kept hg2 (fun e => by have := hq _ e; omega)
  refine ⟨((hc1.kept (grown_bel (bel_alloc w1 o) none) (fun q e => by cases e)).kept hg2 (fun q e => by have := hq _ e; omega)).kept (grown_set (grown_refl w2 (some G)) _ _) (fun q e => by injection e with e; omega), hb2.set 4 _, ?_, keysTo_snoc h.keys hz1 hz2, ?_, ?_, hgG, hbig, ?_, h.gR, h.RG⟩
  · have := hown.kept (grown_set (grown_refl w2 (some G)) 4 (.slice (some ⟨gg, 0, none⟩) (zs.length + 1) cap2)) (Or.inr (by simp [Value.ownBlock]; omega))
    simpa using this
  · have := h.len
    simp
    omega
  · exact grown_new (grown_far (grown_alloc (grown_trans (grown_drew h.grown) hg1) o) hg2 (fun q e => by have := hq _ e; omega)) hbig _
  · have hgR := h.gR
    have hRG := h.RG
    exact (((Box.kept (w := wr.drew) h.res hg1 (by intro e; injection e with e; omega)).alloc o).kept hg2 (fun e => by have := hq _ e; omega)).far (by simp; omega) _

theorem own_base {w : World} {base base' : Nat} {e : TypeId} {size : Nat} {v : Value} {n : Nat} {xs : List Value} (h : w.ownsRow base e size v n xs) (hb : base' ≤ base) : w.ownsRow base' e size v n xs := by
  rcases h with ⟨h1, h2 | ⟨g, cap, cur, h3, h4, h5⟩⟩
  · exact ⟨h1, .inl h2⟩
  · exact ⟨h1, .inr ⟨g, cap, cur, h3, Nat.le_trans hb h4, h5⟩⟩
theorem own_row {w : World} {base : Nat} {e : TypeId} {q cap : Nat} {zs : List Int} (h : w.ownsRow base e 1 (.slice (some ⟨q, 0, none⟩) zs.length cap) zs.length (zs.map (Value.int .i64))) : Row w w.heap.size (some ⟨q, 0, none⟩) zs.length zs := by
  refine ⟨rfl, fun _ => ⟨q, 0, rfl, (h.lt q rfl).2, fun i hi => ?_⟩⟩
  rw [Nat.zero_add, h.cellAt i (by omega), nth_lt hi]
  simp [hi]
theorem keysB_of {top : Int} {zs : List Int} (h : keysTo top zs) (ht : top ≤ 1000000) : keysB zs = true := by
  unfold keysB
  rw [List.all_eq_true]
  intro z hz
  have := h z hz
  exact inB_true.2 ⟨this.1, by omega⟩

/-- What the draw of a right group leaves. -/
def DrawnGroup (t : TypeId) (kd : IntKind) (g : Nat) (A : Option Addr) (n cap : Nat) (w : World) (e : Ending) (w' : World) : Prop :=
  ∃ (s l c sh : Int) (q cap' : Nat) (zs : List Int), e = .returned (.agg #[.int .i64 s, .int .i64 l, .int .i64 c, .int .i64 sh, .slice (some ⟨q, 0, none⟩) zs.length cap']) ∧
    w'.ownsRow w.heap.size 2 1 (.slice (some ⟨q, 0, none⟩) zs.length cap') zs.length (zs.map (Value.int .i64)) ∧ okB s l c sh zs = true ∧ s ≤ 6 ∧ c ≤ 3 ∧ Cur w' t kd g A n cap ∧ w.grownBy w' (some g)

set_option maxHeartbeats 1000000 in
theorem l1DrawGroup_any (g : Nat) (A : Option Addr) (n cap : Nat) (w : World) (hc : Cur w 169 .i64 g A n cap) :
    Calls Tryz.prog 126 #[.pointer (some ⟨g, 0, none⟩)] w (DrawnGroup 169 .i64 g A n cap w) := by
  obtain ⟨i0, hi0, hz0, hz1, hz2⟩ := info_parts Tryz.infoI
  have hlt := hc.lt
  go_enter Tryz.func126, Tryz.ntmps126
  have R0 := Box.new w 26 #[.int .i64 0, .int .i64 0, .int .i64 0, .int .i64 0, .slice none 0 0]
  have hb0 := bel_alloc w (.cells #[.int .i64 0, .int .i64 0, .int .i64 0, .int .i64 0, .slice none 0 0] 26)
  go_wp2_with fail
  generalize (w.alloc _ : World) = w0 at R0 hb0 ⊢
  have hc0 := hc.kept (grown_bel hb0 none) (fun q hq => by cases hq)
  have hg0 := grown_bel hb0 (some g)
  refine (l1Below_any g A n cap 2 _ (by omega) hc0).mono ?_
  rintro e w1 ⟨f, ⟨hf0, hf1⟩, rfl, hc1, hg1⟩
  go_wp2_with fail
  refine (l1Below_any g A n cap 3 _ (by omega) hc1).mono ?_
  rintro e w2 ⟨a, ⟨ha0, ha1⟩, rfl, hc2, hg2⟩
  go_wp2_with fail
  refine (l1Below_any g A n cap 3 _ (by omega) hc2).mono ?_
  rintro e w3 ⟨b, ⟨hb0', hb1⟩, rfl, hc3, hg3⟩
  go_wp2_with fail
  refine (l1Below_any g A n cap 2 _ (by omega) hc3).mono ?_
  rintro e w4 ⟨d, ⟨hd0, hd1⟩, rfl, hc4, hg4⟩
  have hg := grown_trans (grown_trans (grown_trans (grown_trans hg0 hg1) hg2) hg3) hg4
  have R4 := R0.kept (grown_trans (grown_trans (grown_trans hg1 hg2) hg3) hg4) (by intro e; injection e with e; omega)
  clear hg0 hg1 hg2 hg3 hg4 hc0 hc1 hc2 hc3 R0
  go_wp2_with fail
  have G4 := Box.new w4 26 #[.int .i64 (3 * f + 1 + a), .int .i64 f, .int .i64 (1 + b), .int .i64 (1 + d), .slice none 0 0]
  have hb5 := bel_alloc w4 (.cells #[.int .i64 (3 * f + 1 + a), .int .i64 f, .int .i64 (1 + b), .int .i64 (1 + d), .slice none 0 0] 26)
  obtain ⟨s, hs⟩ : ∃ s, s = 3 * f + 1 + a := ⟨_, rfl⟩
  obtain ⟨c, hcc⟩ : ∃ c, c = 1 + b := ⟨_, rfl⟩
  obtain ⟨sh, hsh⟩ : ∃ sh, sh = 1 + d := ⟨_, rfl⟩
  have s1 : 3 * f + 1 ≤ s := by omega
  have s2 : s ≤ 3 * f + 3 := by omega
  have c1 : 1 ≤ c := by omega
  have c2 : c ≤ 3 := by omega
  have sh1 : 1 ≤ sh := by omega
  have sh2 : sh ≤ 2 := by omega
  rw [← hs, ← hcc, ← hsh] at G4 hb5 ⊢
  clear hs hcc hsh ha0 ha1 hb0' hb1 hd0 hd1
  have hRlt := R4.lt
  obtain ⟨k0, hk0⟩ := Int.eq_ofNat_of_zero_le (by omega : 0 ≤ s + c)
  have K0 : Keys 26 169 .i64 w _ g w4.heap.size w.heap.size A n cap s f c sh 1000 k0 (.slice none 0 0) [] :=
    ⟨hc4.kept (grown_bel hb5 none) (fun q hq => by cases hq), G4, ⟨by simp, .inl ⟨rfl, rfl⟩⟩, (fun z hz => by cases hz), (by simp; omega), grown_trans hg (grown_bel hb5 (some g)), hc4.lt, hg.size, R4.later hb5 R4.lt, hlt, hRlt⟩
  have HK := Lib.hid hk0
  have hn0 : 0 < k0 := by omega
  clear hk0 hc4 hg hb5 R4 G4 hb0 hc
  generalize (w4.alloc _ : World) = w5 at K0 ⊢
  generalize w4.heap.size = G at K0 hRlt ⊢
  go_loopw [5] (fun i wr => ∃ (k : Nat) (v : Value) (zs : List Int), i = .int .i64 k ∧ Keys 26 169 .i64 w wr g G w.heap.size A n cap s f c sh 1000 k v zs) (fun i _ => (intOf i).toNat)
  case atStart => exact ⟨k0, _, [], by rw [HK.out], K0⟩
  case round =>
    obtain ⟨k, v, zs, rfl, hK⟩ := hrel
    clear K0
    rcases k with _ | k
    · have hlen := hK.len
      obtain ⟨q, cap', rfl⟩ : ∃ q cap', v = .slice (some ⟨q, 0, none⟩) zs.length cap' := by
        rcases hK.own.2 with ⟨_, h0⟩ | ⟨q, cap', cur, hv, _⟩
        · omega
        · exact ⟨q, cap', hv⟩
      obtain ⟨a0, a1, a2, a3, a4⟩ := hK.box.five
      obtain ⟨r0, r1, r2, r3, r4⟩ := hK.res.five
      have fr := hK.res.frozen
      have hgR := hK.gR
      have hRG := hK.RG
      have hq1 := (hK.own.lt q rfl).1
      have HO := Lib.hid (own_base hK.own (base' := w.heap.size) (by omega))
      have HOK : Hid (okB s f c sh zs = true) := by
        show okB s f c sh zs = true
        have h1 : inB s 1 10 = true := inB_true.2 (by omega)
        have h2 : inB c 1 6 = true := inB_true.2 (by omega)
        have h3 : inB sh 1 4 = true := inB_true.2 (by omega)
        have h4 : inB f 0 ((s - 1) / 3) = true := inB_true.2 (by omega)
        simp only [okB, h1, h2, h3, h4, keysB_of hK.keys (by omega), Bool.true_and, Bool.and_true, decide_eq_true_eq]
        omega
      have G5 := grown5 wr w.heap.size (.int .i64 s) (.int .i64 f) (.int .i64 c) (.int .i64 sh) (.slice (some ⟨q, 0, none⟩) zs.length cap')
      have HO5 := Lib.hid (HO.out.kept G5 (Or.inr (by simp [Value.ownBlock]; omega)))
      have HC5 := Lib.hid (hK.cur.kept G5 (fun r hr => by injection hr with hr; omega))
      have HG5 := Lib.hid (grown_far hK.grown G5 (fun r hr => by injection hr with hr; omega))
      clear G5
      go_wp2
      exact bodyPost_ret (v := .agg #[.int .i64 s, .int .i64 f, .int .i64 c, .int .i64 sh, .slice (some ⟨q, 0, none⟩) zs.length cap']) (by simp [results, Tryz.results126, go_sem, r0, r1, r2, r3, r4]) rfl ⟨s, f, c, sh, q, cap', zs, rfl, HO5, HOK, by omega, by omega, HC5, HG5⟩
    · have hlen := hK.len
      have hpos : (0 : Int) < ((k + 1 : Nat) : Int) := by omega
      obtain ⟨a0, a1, a2, a3, a4⟩ := hK.box.five
      have f4 := hK.box.frozen 4
      have hGl := hK.box.lt
      have hgl := hK.cur.lt
      have hq : ∀ q, v.ownBlock = some q → G + 1 ≤ q := fun q e => (hK.own.lt q e).1
      have HQ := Lib.hid hq
      have hzl : zs.length ≤ 20 := by omega
      have hgG := hK.gG
      clear hq
      go_wp2_with fail
      go_region_law (first
          | (go_simp; go_at_call 67; refine (l1Below_any g A n cap 1000 _ (by omega) ?_).mono ?_; exact hK.cur; rintro e w1 ⟨r, ⟨hr0, hr1⟩, rfl, hc1, hg1⟩; have b1 := Box.kept (w := wr.drew) hK.box hg1 (by intro e; injection e with e; omega); have K1 := b1.cell 4; have K1a : ∀ o, (w1.alloc o).cell? ⟨G, 4, none⟩ = some v := fun o => (b1.alloc o).cell 4; have ho1 := (hK.own.drew).kept hg1 (Or.inr (fun e => by have := HQ.out _ e; omega)); have hz1' := hg1.size; have hwr : IntKind.i64.wrap (1 + r) = 1 + r := IntWalk.i64_in _ (by omega))
          | (refine step_append_lies _ (by rfl) _ _ _ (by rfl) (G + 1) 2 i0 _ 1 8 Tryz.underlying24 hi0 hz0 hz1 hz2 rfl (by omega) v zs.length (zs.map (Value.int .i64)) (by rfl) (ho1.alloc _) ⟨w1.heap.size, 0, none⟩ 1 1 [.int .i64 (1 + r)] (by rfl) (by rfl) (World.news_of_block (cs := #[.int .i64 (1 + r)]) (t := 2) (fr := (0, 0)) (heap_alloc_new w1 _)) (by simp [Value.oneCell']) (by omega) (by unfold maxLen; omega) (by omega) (by have := b1.lt; simp; omega) (w1.heap.size + 1) (by simp) ?_; intro gg cap2 w2 hown2 hgrow2 hat hlt2; have b2 := (b1.alloc (.cells #[.int .i64 (1 + r)] 2)).kept hgrow2 (fun e => by have := HQ.out _ e; omega); have K2 := b2.cell 4; have f2 := b2.frozen 4))
      all_goals
        have HS := Lib.hid (keys_step hK hc1 hg1 (by omega) (by omega) hown2 hgrow2)
        clear hwr K1 K1a K2 f2 b1 b2 ho1 hown2 hgrow2 hc1 hg1 a0 a1 a2 a3 a4 f4
        go_wp2
        go_roundw
        case rel => exact ⟨k, _, _, by go_num, HS.out⟩
        case measure => simp [intOf]

end Go.Proofs.YtjdepjpjjgkmbaaGreat

/- What the model's draw of any group leaves: a group whose keys can be read; the cursor is a right one. -/
namespace Go.Proofs.YtjdepjpjjgkmbaaGreat
open Go.RowKit

theorem Row.kept {w w' : World} {q o n : Nat} {zs : List Int} {r : Option Nat} (h : Row w w.heap.size (some ⟨q, o, none⟩) n zs) (hg : w.grownBy w' r) (hr : r ≠ some q) : Row w' w'.heap.size (some ⟨q, o, none⟩) n zs := by
  refine ⟨h.1, fun hn => ?_⟩
  obtain ⟨b, o', hA, hb, hc⟩ := h.2 hn
  cases hA
  exact ⟨_, _, rfl, Nat.lt_of_lt_of_le hb hg.size, fun i hi => (World.cell?_of_block (a := ⟨q, o + i, none⟩) (hg.block q hb (fun e => hr e.symm))).trans (hc i hi)⟩
theorem Row.put {w : World} {q n : Nat} {zs : List Int} (h : Row w w.heap.size (some ⟨q, 0, none⟩) n zs) (y : Int) : Row (w.setCell ⟨q, 0, none⟩ (.int .i64 y)) (w.setCell ⟨q, 0, none⟩ (.int .i64 y)).heap.size (some ⟨q, 0, none⟩) n (zs.set 0 y) := by
  refine ⟨by rw [List.length_set]; exact h.1, fun hn => ?_⟩
  obtain ⟨b, o', hA, hb, hc⟩ := h.2 hn
  cases hA
  refine ⟨_, _, rfl, by rw [size_set]; exact hb, fun i hi => ?_⟩
  have hl := h.1
  rcases i with _ | i
  · have h0 := hc 0 hn
    have h1 := World.cell?_setCell_same' w ⟨q, 0, none⟩ (.int .i64 y) (by rw [show (⟨q, 0, none⟩ : Addr) = ⟨q, 0 + 0, none⟩ from rfl, h0]; rfl)
    rw [show nth (zs.set 0 y) 0 = y by simp [nth, show 0 < zs.length by omega]]
    exact h1
  · rw [World.cell?_setCell_other _ _ _ _ (by intro e; injection e with _ e; omega), hc (i + 1) hi]
    simp [nth]

end Go.Proofs.YtjdepjpjjgkmbaaGreat

/- What the model's draw of a group, a claim and a seal out of the code leaves: the three, the keys can be read; the bytes can be read. -/
namespace Go.Proofs.YtjdepjpjjgkmbaaGreat
open Go.RowKit

theorem Row.keptB {w w' : World} {B q o n : Nat} {zs : List Int} {r : Option Nat} (h : Row w B (some ⟨q, o, none⟩) n zs) (hB : B ≤ w.heap.size) (hg : w.grownBy w' r) (hr : ∀ k, r = some k → B ≤ k ∨ k ≠ q) : Row w' B (some ⟨q, o, none⟩) n zs := by
  refine ⟨h.1, fun hn => ?_⟩
  obtain ⟨b, o', hA, hb, hc⟩ := h.2 hn
  cases hA
  refine ⟨_, _, rfl, hb, fun i hi => (World.cell?_of_block (a := ⟨q, o + i, none⟩) (hg.block q (by omega) (fun e => ?_))).trans (hc i hi)⟩
  rcases hr _ e.symm with h | h
  · omega
  · exact h rfl
theorem grown_of_drew {a b : World} {r : Option Nat} (h : a.drew.grownBy b r) : a.grownBy b r := ⟨h.os, h.tape, h.output, h.size, h.block⟩
theorem Box.far5 {w : World} {g R : Nat} {t : TypeId} {cs : Array Value} (h : Box w g t cs) (hR : R ≠ g) (u0 u1 u2 u3 u4 : Value) : Box (((((w.setCell ⟨R, 0, none⟩ u0).setCell ⟨R, 1, none⟩ u1).setCell ⟨R, 2, none⟩ u2).setCell ⟨R, 3, none⟩ u3).setCell ⟨R, 4, none⟩ u4) g t cs :=
  ((((h.far (p := ⟨R, 0, none⟩) hR u0).far (p := ⟨R, 1, none⟩) hR u1).far (p := ⟨R, 2, none⟩) hR u2).far (p := ⟨R, 3, none⟩) hR u3).far (p := ⟨R, 4, none⟩) hR u4
theorem Row.far {w : World} {B q o n : Nat} {zs : List Int} (h : Row w B (some ⟨q, o, none⟩) n zs) {p : Addr} (hp : B ≤ p.block) (u : Value) : Row (w.setCell p u) B (some ⟨q, o, none⟩) n zs :=
  h.keep fun a ha => World.cell?_setCell_other _ _ _ _ (fun e => by rw [e] at hp; omega)

/-- A group, a claim and a seal, drawn, in variables of their own; the results' places are still empty. -/
structure Three (w0 w : World) (P Q S q o m cap' : Nat) (s l c sh : Int) (zs : List Int) (ck ch ct cq cv x t : Int) : Prop where
  gr : Box w P 26 #[.int .i64 s, .int .i64 l, .int .i64 c, .int .i64 sh, .slice (some ⟨q, o, none⟩) m cap']
  cl : Box w Q 180 #[.int .i64 ck, .int .i64 ch, .int .i64 ct, .int .i64 cq, .int .i64 cv]
  se : Box w S 136 #[.int .i64 x, .int .i64 t]
  r1 : Box w w0.heap.size 26 #[.int .i64 0, .int .i64 0, .int .i64 0, .int .i64 0, .slice none 0 0]
  r2 : Box w (w0.heap.size + 1) 180 #[.int .i64 0, .int .i64 0, .int .i64 0, .int .i64 0, .int .i64 0]
  r3 : Box w (w0.heap.size + 1 + 1) 136 #[.int .i64 0, .int .i64 0]
  row : Row w P (some ⟨q, o, none⟩) m zs
  bel : Below w0.heap.size w0 w
  h1 : w0.heap.size + 1 + 1 < P
  h2 : P < Q
  h3 : Q < S

theorem Three.kept {w0 w w' : World} {P Q S q o m cap' g : Nat} {s l c sh : Int} {zs : List Int} {ck ch ct cq cv x t : Int} (h : Three w0 w P Q S q o m cap' s l c sh zs ck ch ct cq cv x t)
    (hg : w.grownBy w' (some g)) (h1 : w0.heap.size + 1 + 1 < g) (h2 : g < P) (h3 : g ≠ q) : Three w0 w' P Q S q o m cap' s l c sh zs ck ch ct cq cv x t := by
  have a1 := h.h1
  have a2 := h.h2
  have a3 := h.h3
  have a4 := h.gr.lt
  exact ⟨h.gr.kept hg (by intro e; injection e with e; omega), h.cl.kept hg (by intro e; injection e with e; omega), h.se.kept hg (by intro e; injection e with e; omega), h.r1.kept hg (by intro e; injection e with e; omega), h.r2.kept hg (by intro e; injection e with e; omega), h.r3.kept hg (by intro e; injection e with e; omega),
    h.row.keptB (by omega) hg (fun k hk => by injection hk with hk; exact .inr (by omega)), bel_grown h.bel hg (by omega), a1, a2, a3⟩
theorem Three.who {w0 w : World} {P Q S q o m cap' : Nat} {s l c sh : Int} {zs : List Int} {ck ch ct cq cv x t : Int} (h : Three w0 w P Q S q o m cap' s l c sh zs ck ch ct cq cv x t) (y : Int) :
    Three w0 (w.setCell ⟨S, 0, none⟩ (.int .i64 y)) P Q S q o m cap' s l c sh zs ck ch ct cq cv y t := by
  have a1 := h.h1
  have a2 := h.h2
  have a3 := h.h3
  exact ⟨h.gr.far (p := ⟨S, 0, none⟩) (by show S ≠ _; omega) _, h.cl.far (p := ⟨S, 0, none⟩) (by show S ≠ _; omega) _, h.se.set 0 _, h.r1.far (p := ⟨S, 0, none⟩) (by show S ≠ _; omega) _, h.r2.far (p := ⟨S, 0, none⟩) (by show S ≠ _; omega) _, h.r3.far (p := ⟨S, 0, none⟩) (by show S ≠ _; omega) _,
    h.row.far (p := ⟨S, 0, none⟩) (by show P ≤ S; omega) _, h.bel.setCell (p := ⟨S, 0, none⟩) (by show _ ≤ S; omega) _, a1, a2, a3⟩
theorem Three.value {w0 w : World} {P Q S q o m cap' : Nat} {s l c sh : Int} {zs : List Int} {ck ch ct cq cv x t : Int} (h : Three w0 w P Q S q o m cap' s l c sh zs ck ch ct cq cv x t) (y : Int) :
    Three w0 (w.setCell ⟨Q, 4, none⟩ (.int .i64 y)) P Q S q o m cap' s l c sh zs ck ch ct cq y x t := by
  have a1 := h.h1
  have a2 := h.h2
  have a3 := h.h3
  exact ⟨h.gr.far (p := ⟨Q, 4, none⟩) (by show Q ≠ _; omega) _, h.cl.set 4 _, h.se.far (p := ⟨Q, 4, none⟩) (by show Q ≠ _; omega) _, h.r1.far (p := ⟨Q, 4, none⟩) (by show Q ≠ _; omega) _, h.r2.far (p := ⟨Q, 4, none⟩) (by show Q ≠ _; omega) _, h.r3.far (p := ⟨Q, 4, none⟩) (by show Q ≠ _; omega) _,
    h.row.far (p := ⟨Q, 4, none⟩) (by show P ≤ Q; omega) _, h.bel.setCell (p := ⟨Q, 4, none⟩) (by show _ ≤ Q; omega) _, a1, a2, a3⟩

theorem put5_keep {w0 w : World} {B q o m R : Nat} {zs : List Int} (row : Row w B (some ⟨q, o, none⟩) m zs) (bel : Below w0.heap.size w0 w) (hB : B ≤ w.heap.size) (hR : w0.heap.size ≤ R) (hq : R ≠ q) (u0 u1 u2 u3 u4 : Value) :
    Row (((((w.setCell ⟨R, 0, none⟩ u0).setCell ⟨R, 1, none⟩ u1).setCell ⟨R, 2, none⟩ u2).setCell ⟨R, 3, none⟩ u3).setCell ⟨R, 4, none⟩ u4) B (some ⟨q, o, none⟩) m zs ∧ Below w0.heap.size w0 (((((w.setCell ⟨R, 0, none⟩ u0).setCell ⟨R, 1, none⟩ u1).setCell ⟨R, 2, none⟩ u2).setCell ⟨R, 3, none⟩ u3).setCell ⟨R, 4, none⟩ u4) ∧
    B ≤ (((((w.setCell ⟨R, 0, none⟩ u0).setCell ⟨R, 1, none⟩ u1).setCell ⟨R, 2, none⟩ u2).setCell ⟨R, 3, none⟩ u3).setCell ⟨R, 4, none⟩ u4).heap.size := by
  have G := grown5 w R u0 u1 u2 u3 u4
  exact ⟨row.keptB hB G (fun k hk => by injection hk with hk; exact .inr (by omega)), bel_grown bel G hR, Nat.le_trans hB G.size⟩
theorem put2_keep {w0 w : World} {B q o m R : Nat} {zs : List Int} (row : Row w B (some ⟨q, o, none⟩) m zs) (bel : Below w0.heap.size w0 w) (hB : B ≤ w.heap.size) (hR : w0.heap.size ≤ R) (hq : R ≠ q) (u0 u1 : Value) :
    Row ((w.setCell ⟨R, 0, none⟩ u0).setCell ⟨R, 1, none⟩ u1) B (some ⟨q, o, none⟩) m zs ∧ Below w0.heap.size w0 ((w.setCell ⟨R, 0, none⟩ u0).setCell ⟨R, 1, none⟩ u1) ∧ B ≤ ((w.setCell ⟨R, 0, none⟩ u0).setCell ⟨R, 1, none⟩ u1).heap.size := by
  have G := grown2 w R u0 u1
  exact ⟨row.keptB hB G (fun k hk => by injection hk with hk; exact .inr (by omega)), bel_grown bel G hR, Nat.le_trans hB G.size⟩

/-- The three go into the results' places. -/
theorem Three.fin {w0 w : World} {P Q S q o m cap' : Nat} {s l c sh : Int} {zs : List Int} {ck ch ct cq cv x t : Int} (h : Three w0 w P Q S q o m cap' s l c sh zs ck ch ct cq cv x t) (hq : w0.heap.size + 1 + 1 < q) (w' : World)
    (hw : ((((((((((((w.setCell ⟨w0.heap.size, 0, none⟩ (.int .i64 s)).setCell ⟨w0.heap.size, 1, none⟩ (.int .i64 l)).setCell ⟨w0.heap.size, 2, none⟩ (.int .i64 c)).setCell ⟨w0.heap.size, 3, none⟩ (.int .i64 sh)).setCell ⟨w0.heap.size, 4, none⟩ (.slice (some ⟨q, o, none⟩) m cap')).setCell ⟨w0.heap.size + 1, 0, none⟩ (.int .i64 ck)).setCell ⟨w0.heap.size + 1, 1, none⟩ (.int .i64 ch)).setCell ⟨w0.heap.size + 1, 2, none⟩ (.int .i64 ct)).setCell ⟨w0.heap.size + 1, 3, none⟩ (.int .i64 cq)).setCell ⟨w0.heap.size + 1, 4, none⟩ (.int .i64 cv)).setCell ⟨w0.heap.size + 1 + 1, 0, none⟩ (.int .i64 x)).setCell ⟨w0.heap.size + 1 + 1, 1, none⟩ (.int .i64 t)) = w') :
    Box w' w0.heap.size 26 #[.int .i64 s, .int .i64 l, .int .i64 c, .int .i64 sh, .slice (some ⟨q, o, none⟩) m cap'] ∧ Box w' (w0.heap.size + 1) 180 #[.int .i64 ck, .int .i64 ch, .int .i64 ct, .int .i64 cq, .int .i64 cv] ∧ Box w' (w0.heap.size + 1 + 1) 136 #[.int .i64 x, .int .i64 t] ∧
    Row w' w'.heap.size (some ⟨q, o, none⟩) m zs ∧ Below w0.heap.size w0 w' := by
  have a1 := h.h1
  have a4 := h.gr.lt
  have n1 : w0.heap.size ≠ w0.heap.size + 1 := by omega
  have n2 : w0.heap.size ≠ w0.heap.size + 1 + 1 := by omega
  have n3 : w0.heap.size + 1 ≠ w0.heap.size := by omega
  have n4 : w0.heap.size + 1 ≠ w0.heap.size + 1 + 1 := by omega
  have n5 : w0.heap.size + 1 + 1 ≠ w0.heap.size := by omega
  have n6 : w0.heap.size + 1 + 1 ≠ w0.heap.size + 1 := by omega
  have R := h.r1.put5 (.int .i64 s) (.int .i64 l) (.int .i64 c) (.int .i64 sh) (.slice (some ⟨q, o, none⟩) m cap')
  have C := (h.r2.far5 n1 (.int .i64 s) (.int .i64 l) (.int .i64 c) (.int .i64 sh) (.slice (some ⟨q, o, none⟩) m cap')).put5 (.int .i64 ck) (.int .i64 ch) (.int .i64 ct) (.int .i64 cq) (.int .i64 cv)
  have S := ((h.r3.far5 n2 (.int .i64 s) (.int .i64 l) (.int .i64 c) (.int .i64 sh) (.slice (some ⟨q, o, none⟩) m cap')).far5 n4 (.int .i64 ck) (.int .i64 ch) (.int .i64 ct) (.int .i64 cq) (.int .i64 cv)).put2 (.int .i64 x) (.int .i64 t)
  obtain ⟨W1, E1, s1⟩ := put5_keep h.row h.bel (by omega) (Nat.le_refl _) (show w0.heap.size ≠ q by omega) (.int .i64 s) (.int .i64 l) (.int .i64 c) (.int .i64 sh) (.slice (some ⟨q, o, none⟩) m cap')
  obtain ⟨W2, E2, s2⟩ := put5_keep W1 E1 s1 (show w0.heap.size ≤ w0.heap.size + 1 by omega) (show w0.heap.size + 1 ≠ q by omega) (.int .i64 ck) (.int .i64 ch) (.int .i64 ct) (.int .i64 cq) (.int .i64 cv)
  obtain ⟨W3, E3, s3⟩ := put2_keep W2 E2 s2 (show w0.heap.size ≤ w0.heap.size + 1 + 1 by omega) (show w0.heap.size + 1 + 1 ≠ q by omega) (.int .i64 x) (.int .i64 t)
  refine ⟨?_, ?_, ?_, ?_, ?_⟩
  · rw [← hw]; exact (R.far5 n3 _ _ _ _ _).far2 n5 _ _
  · rw [← hw]; exact C.far2 n6 _ _
  · rw [← hw]; exact S
  · rw [← hw]; exact W3.more s3
  · rw [← hw]; exact E3

end Go.Proofs.YtjdepjpjjgkmbaaGreat

/- What the model's draw of seals out of the code leaves: at most twenty of them; the bytes can be read. -/
namespace Go.Proofs.YtjdepjpjjgkmbaaGreat
open Go.RowKit

/-- What the drawing of seals keeps: the cursor, the group, the claim, the seals so far. -/
structure SealsAt (w wr : World) (g : Nat) (A : Option Addr) (n cap : Nat) (s l c sh : Int) (q o m cap' : Nat) (zs : List Int) (ck ch ct cq cv : Int) (p pc : Nat) (ps : List (Int × Int)) : Prop where
  cur : Cur wr 169 .i64 g A n cap
  grw : w.grownBy wr (some g)
  gr : Box wr w.heap.size 26 #[.int .i64 s, .int .i64 l, .int .i64 c, .int .i64 sh, .slice (some ⟨q, o, none⟩) m cap']
  cl : Box wr (w.heap.size + 1) 180 #[.int .i64 ck, .int .i64 ch, .int .i64 ct, .int .i64 cq, .int .i64 cv]
  own : wr.ownsRow (w.heap.size + 2) 136 2 (.slice (some ⟨p, 0, none⟩) ps.length pc) ps.length (flatP ps)
  row : Row wr w.heap.size (some ⟨q, o, none⟩) m zs
section
variable {w wr w' : World} {g : Nat} {A : Option Addr} {n cap : Nat} {s l c sh : Int} {q o m cap' : Nat} {zs : List Int} {ck ch ct cq cv : Int} {p pc : Nat} {ps : List (Int × Int)}
theorem SealsAt.later (h : SealsAt w wr g A n cap s l c sh q o m cap' zs ck ch ct cq cv p pc ps) (hb : Below wr.heap.size wr w') : SealsAt w w' g A n cap s l c sh q o m cap' zs ck ch ct cq cv p pc ps :=
  ⟨h.cur.kept (grown_bel hb none) (fun q hq => by cases hq), grown_trans h.grw (grown_bel hb _), h.gr.later hb h.gr.lt, h.cl.later hb h.cl.lt, h.own.kept (grown_bel hb none) (by simp [Value.ownBlock]), h.row.below hb h.grw.size⟩
theorem SealsAt.draw (h : SealsAt w wr g A n cap s l c sh q o m cap' zs ck ch ct cq cv p pc ps) (hg : wr.grownBy w' (some g)) (hc : Cur w' 169 .i64 g A n cap) (hgl : g < w.heap.size) (hgq : g ≠ q) : SealsAt w w' g A n cap s l c sh q o m cap' zs ck ch ct cq cv p pc ps :=
  ⟨hc, grown_trans h.grw hg, h.gr.kept hg (by intro e; injection e with e; omega), h.cl.kept hg (by intro e; injection e with e; omega), h.own.kept hg (.inr (by have := (h.own.lt p rfl).1; simp [Value.ownBlock]; omega)), h.row.keptB h.grw.size hg (fun k hk => by injection hk with hk; exact .inr (by omega))⟩
theorem SealsAt.push {a b : Int} {ob : Obj} {gg cap2 : Nat} (h : SealsAt w wr g A n cap s l c sh q o m cap' zs ck ch ct cq cv p pc ps)
    (hown : w'.ownsRow (w.heap.size + 2) 136 2 (.slice (some ⟨gg, 0, none⟩) (ps.length + 1) cap2) (ps.length + 1) (flatP ps ++ [.int .i64 a, .int .i64 b])) (hg : (wr.alloc ob).grownBy w' (Value.ownBlock (.slice (some ⟨p, 0, none⟩) ps.length pc))) (hgl : g < w.heap.size) : SealsAt w w' g A n cap s l c sh q o m cap' zs ck ch ct cq cv gg cap2 (ps ++ [(a, b)]) := by
  have hp := (h.own.lt p rfl).1
  have hg : (wr.alloc ob).grownBy w' (some p) := hg
  have h2 := h.later (bel_alloc wr ob)
  have hs := h.grw.size
  refine ⟨h2.cur.kept hg (fun r hr => by injection hr with hr; omega), ⟨hg.os.trans h2.grw.os, hg.tape.trans h2.grw.tape, hg.output.trans h2.grw.output, Nat.le_trans h2.grw.size hg.size, fun k hk hne => (hg.block k (Nat.lt_of_lt_of_le hk h2.grw.size) (by intro e; injection e with e; omega)).trans (h2.grw.block k hk hne)⟩,
    h2.gr.kept hg (by intro e; injection e with e; omega), h2.cl.kept hg (by intro e; injection e with e; omega), ?_, h2.row.keptB h2.grw.size hg (fun k hk => by injection hk with hk; exact .inl (by omega))⟩
  rw [flatP_snoc]
  simpa using hown
end
end Go.Proofs.YtjdepjpjjgkmbaaGreat

/- The model's l7Copy and l7Write once more: the lists that they answer are one's own (written by reg_own.py). -/
namespace Go.Proofs.YtjdepjpjjgkmbaaGreat
open Go.RowKit Go.Deep

/-- A row of one's own, in a block of [lo, hi). -/
def OwnR (t : TypeId) (size : Nat) (w : World) (lo hi : Nat) (u : Value) (n : Nat) (vs : List Value) : Prop :=
  ∃ g cap, lo ≤ g ∧ g < hi ∧ u = .slice (some ⟨g, 0, none⟩) n cap ∧ w.ownsRow lo t size u n vs
section
variable {t : TypeId} {size : Nat} {w w' : World} {lo hi : Nat} {u : Value} {n : Nat} {vs : List Value}
theorem OwnR.keepG (h : OwnR t size w lo hi u n vs) {r : Option Nat} (hg : w.grownBy w' r) (hr : ∀ b, r = some b → b < lo ∨ hi ≤ b) : OwnR t size w' lo hi u n vs := by
  obtain ⟨g, cap, h1, h2, rfl, h4⟩ := h
  exact ⟨g, cap, h1, h2, rfl, h4.kept hg (.inr (fun e => by have := hr g e.symm; omega))⟩
theorem OwnR.later (h : OwnR t size w lo hi u n vs) (hb : Below w.heap.size w w') : OwnR t size w' lo hi u n vs :=
  h.keepG (grown_bel hb none) (fun b e => by cases e)
theorem OwnR.kept {r : Nat} (h : OwnR t size w lo hi u n vs) (hg : w.grownBy w' (some r)) (hr : hi ≤ r) : OwnR t size w' lo hi u n vs :=
  h.keepG hg (fun b e => by injection e with e; omega)
theorem OwnR.far (h : OwnR t size w lo hi u n vs) {b : Nat} (hb : b < lo) (o : Nat) (x : Value) : OwnR t size (w.setCell ⟨b, o, none⟩ x) lo hi u n vs :=
  h.keepG (grown_set (grown_refl w _) o x) (fun k e => by injection e with e; omega)
theorem OwnR.farHi (h : OwnR t size w lo hi u n vs) {b : Nat} (hb : hi ≤ b) (o : Nat) (x : Value) : OwnR t size (w.setCell ⟨b, o, none⟩ x) lo hi u n vs :=
  h.keepG (grown_set (grown_refl w _) o x) (fun k e => by injection e with e; omega)
theorem OwnR.far5 (h : OwnR t size w lo hi u n vs) {b : Nat} (hb : b < lo) (x0 x1 x2 x3 x4 : Value) : OwnR t size (((((w.setCell ⟨b, 0, none⟩ x0).setCell ⟨b, 1, none⟩ x1).setCell ⟨b, 2, none⟩ x2).setCell ⟨b, 3, none⟩ x3).setCell ⟨b, 4, none⟩ x4) lo hi u n vs :=
  ((((h.far hb 0 x0).far hb 1 x1).far hb 2 x2).far hb 3 x3).far hb 4 x4
theorem OwnR.wide {lo' hi' : Nat} (h : OwnR t size w lo hi u n vs) (h1 : lo' ≤ lo) (h2 : hi ≤ hi') : OwnR t size w lo' hi' u n vs := by
  obtain ⟨g, cap, a1, a2, rfl, a4⟩ := h
  exact ⟨g, cap, by omega, by omega, rfl, ownLow a4 h1⟩
theorem OwnR.form (h : OwnR t size w lo hi u n vs) : ∃ g cap, u = .slice (some ⟨g, 0, none⟩) n cap := by
  obtain ⟨g, cap, a1, a2, rfl, a4⟩ := h
  exact ⟨g, cap, rfl⟩
theorem ownR_of {g cap : Nat} (h : w.ownsRow lo t size (.slice (some ⟨g, 0, none⟩) n cap) n vs) : OwnR t size w lo w.heap.size (.slice (some ⟨g, 0, none⟩) n cap) n vs :=
  ⟨g, cap, (h.lt g rfl).1, (h.lt g rfl).2, rfl, h⟩
end
abbrev OP (w : World) (lo hi : Nat) (u : Value) (D : List (Int × Int)) : Prop := OwnR 136 2 w lo hi u D.length (flatP D)
abbrev OO (w : World) (lo hi : Nat) (u : Value) (D : List Opn) : Prop := OwnR 97 4 w lo hi u D.length (flatO D)

/-- A shelf that is answered, with lists of one's own. -/
def RegO (w : World) (rt rq rv : Int) (ps : List (Int × Int)) (os : List Opn) (e : Ending) (w' : World) : Prop :=
  ∃ (B : Nat) (u v : Value), w.heap.size ≤ B ∧ B ≤ w'.heap.size ∧ e = .returned (.agg #[.int .i64 rt, .int .i64 rq, .int .i64 rv, u, v]) ∧ OP w' w.heap.size B u ps ∧ OO w' B w'.heap.size v os ∧ Below w.heap.size w w'

set_option maxRecDepth 100000 in
set_option maxHeartbeats 2000000 in
theorem l7Copy_own (rt rq rv : Int) (P : Option Addr) (p pc : Nat) (Q : Option Addr) (q qc : Nat) (ps : List (Int × Int)) (os : List Opn) (w : World) (hp : ps.length ≤ 4194304) (hq : os.length ≤ 4194304) (h1 : Slc w (.slice P p pc) ps) (h2 : SlcQ w (.slice Q q qc) os) :
    Calls Tryz.prog 98 #[.agg #[.int .i64 rt, .int .i64 rq, .int .i64 rv, .slice P p pc, .slice Q q qc]] w (RegO w rt rq rv ps os) := by
  obtain ⟨i0, hi0, hz0, hz1, hz2⟩ := info_parts Tryz.infoSealI
  obtain ⟨j0, hj0, hy0, hy1, hy2⟩ := info_parts Tryz.infoOpen
  have D := (Box.new w 80 #[.int .i64 rt, .int .i64 rq, .int .i64 rv, .slice P p pc, .slice Q q qc]).alloc (.cells #[.int .i64 0, .int .i64 0, .int .i64 0, .slice none 0 0, .slice none 0 0] 80)
  have X := Box.new (w.alloc (.cells #[.int .i64 rt, .int .i64 rq, .int .i64 rv, .slice P p pc, .slice Q q qc] 80)) 80 #[.int .i64 0, .int .i64 0, .int .i64 0, .slice none 0 0, .slice none 0 0]
  have hb0 := bel_trans (bel_alloc w (.cells #[.int .i64 rt, .int .i64 rq, .int .i64 rv, .slice P p pc, .slice Q q qc] 80)) (bel_alloc _ (.cells #[.int .i64 0, .int .i64 0, .int .i64 0, .slice none 0 0, .slice none 0 0] 80))
  simp only [World.size_alloc] at X
  have hszW : w.heap.size + 1 + 1 = ((w.alloc (.cells #[.int .i64 rt, .int .i64 rq, .int .i64 rv, .slice P p pc, .slice Q q qc] 80)).alloc (.cells #[.int .i64 0, .int .i64 0, .int .i64 0, .slice none 0 0, .slice none 0 0] 80)).heap.size := by simp
  generalize hW : ((w.alloc (.cells #[.int .i64 rt, .int .i64 rq, .int .i64 rv, .slice P p pc, .slice Q q qc] 80)).alloc (.cells #[.int .i64 0, .int .i64 0, .int .i64 0, .slice none 0 0, .slice none 0 0] 80) : World) = w0 at hb0 D X hszW
  have hb1 := bel_alloc w0 (.cells #[] 136)
  have hown := own_new w0 136 2
  have S1 := Lib.hid ((h1.later hb0).later hb1).src
  have H2 := Lib.hid (h2.later hb0)
  have D1 := D.later hb1 D.lt
  have X1 := X.later hb1 X.lt
  have E1 := bel_trans hb0 hb1
  have hbs : w0.heap.size ≤ (w0.alloc (.cells #[] 136)).heap.size := hb1.size
  replace hszW := Lib.hid hszW
  go_enter Tryz.func98, Tryz.ntmps98
  go_upto_region 1 with fail
  clear hW
  obtain ⟨d0, d1, d2, d3, d4⟩ := D.five
  have hD := D.lt
  have hX := X.lt
  go_upto_region 2 with (at_builtin; refine wpList_append_src rfl _ _ _ rfl w0.heap.size 136 i0 _ 2 16 Tryz.underlying40 hi0 hz0 hz1 hz2 rfl (by omega) (.slice (some ⟨w0.heap.size, 0, none⟩) 0 0) 0 [] rfl hown (by simp) (.slice P p pc) ps.length (flatP ps) rfl S1.out (by unfold maxLen; omega) (by omega) hbs ?_; intro g1 cap1 w1 hown1 hgrow1 hbg1 hlg1; have hR1 := hown1; rw [Nat.zero_add, List.nil_append] at hR1; have R1 := ownR_of hR1; have hgr : (w0.alloc (.cells #[] 136)).grownBy w1 (some w0.heap.size) := hgrow1; have D2 := D1.kept hgr (by intro e; injection e with e; omega); have X2 := X1.kept hgr (by intro e; injection e with e; omega); have E2 := bel_grown E1 hgr (by have := hb0.size; omega); obtain ⟨e0, e1, e2, e3, e4⟩ := D2.five; have fd := D2.frozen; clear hown1 hgrow1 hR1)
  have hlo : w.heap.size < w0.heap.size := hD
  have R3 := R1.far (b := w.heap.size) hlo 3 (.slice (some ⟨g1, 0, none⟩) ps.length cap1)
  have D3 : Box (w1.setCell ⟨w.heap.size, 3, none⟩ (.slice (some ⟨g1, 0, none⟩) ps.length cap1)) w.heap.size 80 #[.int .i64 rt, .int .i64 rq, .int .i64 rv, .slice (some ⟨g1, 0, none⟩) ps.length cap1, .slice Q q qc] := D2.set 3 _
  have X3 := X2.far (p := ⟨w.heap.size, 3, none⟩) (by show w.heap.size ≠ _; omega) (.slice (some ⟨g1, 0, none⟩) ps.length cap1)
  have E3 := E2.setCell (p := ⟨w.heap.size, 3, none⟩) (Nat.le_refl _) (.slice (some ⟨g1, 0, none⟩) ps.length cap1)
  have hs3 : (w1.setCell ⟨w.heap.size, 3, none⟩ (.slice (some ⟨g1, 0, none⟩) ps.length cap1)).heap.size = w1.heap.size := size_set _ _ _
  rw [← hs3] at R3
  clear R1 D2 X2 E2 hgr e0 e1 e2 e3 e4 fd d0 d1 d2 d3 d4 D X D1 X1 E1 S1 hown hb1 hbs hs3 hlg1
  try simp only [Nat.zero_add]
  generalize (w1.setCell _ _ : World) = w2 at R3 D3 X3 E3 ⊢
  have hb4 := bel_alloc w2 (.cells #[] 97)
  have hown := own_new w2 97 4
  have S2 := Lib.hid ((h2.later E3).later hb4).src
  have D4 := D3.later hb4 D3.lt
  have X4 := X3.later hb4 X3.lt
  have E4 := bel_trans E3 hb4
  have R4 := R3.later hb4
  have hbs : w2.heap.size ≤ (w2.alloc (.cells #[] 97)).heap.size := hb4.size
  obtain ⟨d0, d1, d2, d3, d4⟩ := D3.five
  have hD3 := D3.lt
  have hX3 := X3.lt
  go_upto_region 3 with (at_builtin; refine wpList_append_src rfl _ _ _ rfl w2.heap.size 97 j0 _ 4 32 Tryz.underlying78 hj0 hy0 hy1 hy2 rfl (by omega) (.slice (some ⟨w2.heap.size, 0, none⟩) 0 0) 0 [] rfl hown (by simp) (.slice Q q qc) os.length (flatO os) rfl S2.out (by unfold maxLen; omega) (by omega) hbs ?_; intro g2 cap2 w5 hown5 hgrow5 hbg5 hlg5; have hR5 := hown5; rw [Nat.zero_add, List.nil_append] at hR5; have O5 := ownR_of hR5; have hgr : (w2.alloc (.cells #[] 97)).grownBy w5 (some w2.heap.size) := hgrow5; have D5 := D4.kept hgr (by intro e; injection e with e; omega); have X5 := X4.kept hgr (by intro e; injection e with e; omega); have E5 := bel_grown E4 hgr (by have := E3.size; omega); have R5 := R4.kept hgr (Nat.le_refl _); obtain ⟨e0, e1, e2, e3, e4⟩ := D5.five; have fd := D5.frozen; clear hown5 hgrow5 hR5)
  have R6 := R5.far (b := w.heap.size) hlo 4 (.slice (some ⟨g2, 0, none⟩) os.length cap2)
  have O6 := O5.far (b := w.heap.size) hD3 4 (.slice (some ⟨g2, 0, none⟩) os.length cap2)
  have D6 : Box (w5.setCell ⟨w.heap.size, 4, none⟩ (.slice (some ⟨g2, 0, none⟩) os.length cap2)) w.heap.size 80 #[.int .i64 rt, .int .i64 rq, .int .i64 rv, .slice (some ⟨g1, 0, none⟩) ps.length cap1, .slice (some ⟨g2, 0, none⟩) os.length cap2] := D5.set 4 _
  have X6 := X5.far (p := ⟨w.heap.size, 4, none⟩) (by show w.heap.size ≠ _; omega) (.slice (some ⟨g2, 0, none⟩) os.length cap2)
  have E6 := E5.setCell (p := ⟨w.heap.size, 4, none⟩) (Nat.le_refl _) (.slice (some ⟨g2, 0, none⟩) os.length cap2)
  have hsz6 : w5.heap.size = (w5.setCell ⟨w.heap.size, 4, none⟩ (.slice (some ⟨g2, 0, none⟩) os.length cap2)).heap.size := (size_set _ _ _).symm
  rw [hsz6] at O6
  have hs6 : w2.heap.size ≤ (w5.setCell ⟨w.heap.size, 4, none⟩ (.slice (some ⟨g2, 0, none⟩) os.length cap2)).heap.size := by rw [size_set]; exact Nat.le_trans hb4.size hgr.size
  clear hsz6 R5 O5 D5 X5 E5 hgr e0 e1 e2 e3 e4 fd d0 d1 d2 d3 d4 D3 X3 E4 R4 D4 X4 S2 hown hb4 hbs hlg5 R3
  try simp only [Nat.zero_add]
  generalize (w5.setCell _ _ : World) = w6 at R6 O6 D6 X6 E6 hs6 ⊢
  have hw2 : w0.heap.size ≤ w2.heap.size := Nat.le_trans (Nat.le_of_eq hszW.out.symm) (by omega)
  have hwB : w.heap.size ≤ w2.heap.size := E3.size
  have HP : Hid (∀ x0 x1 x2 x3 x4 : Value, RegO w rt rq rv ps os (.returned (.agg #[.int .i64 rt, .int .i64 rq, .int .i64 rv, .slice (some ⟨g1, 0, none⟩) ps.length cap1, .slice (some ⟨g2, 0, none⟩) os.length cap2])) (((((w6.setCell ⟨w.heap.size + 1, 0, none⟩ x0).setCell ⟨w.heap.size + 1, 1, none⟩ x1).setCell ⟨w.heap.size + 1, 2, none⟩ x2).setCell ⟨w.heap.size + 1, 3, none⟩ x3).setCell ⟨w.heap.size + 1, 4, none⟩ x4)) := Lib.hid fun x0 x1 x2 x3 x4 =>
    ⟨w2.heap.size, _, _, hwB, by simp only [size_set]; exact hs6, rfl, (R6.far5 hX x0 x1 x2 x3 x4).wide hb0.size (Nat.le_refl _), (O6.far5 (by omega) x0 x1 x2 x3 x4).wide (Nat.le_refl _) (by simp only [size_set]; exact Nat.le_refl _), bel_five E6 (by omega) x0 x1 x2 x3 x4⟩
  obtain ⟨d0, d1, d2, d3, d4⟩ := D6.five
  obtain ⟨x0, x1, x2, x3, x4⟩ := X6.five
  have fx := X6.frozen
  clear R6 O6 E6 D6 X6
  go_wp2
  exact bodyPost_ret (v := .agg #[.int .i64 rt, .int .i64 rq, .int .i64 rv, .slice (some ⟨g1, 0, none⟩) ps.length cap1, .slice (some ⟨g2, 0, none⟩) os.length cap2]) (by simp [results, Tryz.results98, go_sem, x0, x1, x2, x3, x4]) rfl (HP.out _ _ _ _ _)


end Go.Proofs.YtjdepjpjjgkmbaaGreat

/- The model's l7Write once more: the lists of its answer are one's own (written by reg_own2.py). -/
namespace Go.Proofs.YtjdepjpjjgkmbaaGreat
open Go.RowKit Go.Deep

/-- What the model's writing keeps. -/
structure LWO (w wr : World) (S B : Nat) (s l c sh : Int) (A : Option Addr) (n cap : Nat) (rt rq rv : Int) (P : Option Addr) (p pc : Nat) (Q : Option Addr) (q qc : Nat) (ct cq : Int) (u v : Value) (ps : List (Int × Int)) (os : List Opn) : Prop where
  bel : Below w.heap.size w wr
  G : Box wr w.heap.size 26 #[.int .i64 s, .int .i64 l, .int .i64 c, .int .i64 sh, .slice A n cap]
  D : Box wr (w.heap.size + 1) 80 #[.int .i64 rt, .int .i64 rq, .int .i64 rv, .slice P p pc, .slice Q q qc]
  T : Box wr (w.heap.size + 1 + 1) 39 #[.int .i64 ct, .int .i64 cq]
  X : Box wr (w.heap.size + 1 + 1 + 1) 80 #[.int .i64 0, .int .i64 0, .int .i64 0, .slice none 0 0, .slice none 0 0]
  Y : Box wr S 80 #[.int .i64 rt, .int .i64 rq, .int .i64 rv, u, v]
  hlo : w.heap.size + 1 + 1 + 1 < B
  hBS : B ≤ S
  R : OP wr (w.heap.size + 1 + 1 + 1 + 1) B u ps
  V : OO wr B S v os
theorem LWO.later {w wr w' : World} {S B : Nat} {s l c sh : Int} {A : Option Addr} {n cap : Nat} {rt rq rv : Int} {P : Option Addr} {p pc : Nat} {Q : Option Addr} {q qc : Nat} {ct cq : Int} {u v : Value} {ps : List (Int × Int)} {os : List Opn} (h : LWO w wr S B s l c sh A n cap rt rq rv P p pc Q q qc ct cq u v ps os) (hb : Below wr.heap.size wr w') : LWO w w' S B s l c sh A n cap rt rq rv P p pc Q q qc ct cq u v ps os :=
  ⟨bel_trans h.bel hb, h.G.later hb h.G.lt, h.D.later hb h.D.lt, h.T.later hb h.T.lt, h.X.later hb h.X.lt, h.Y.later hb h.Y.lt, h.hlo, h.hBS, h.R.later hb, h.V.later hb⟩
/-- What the model's writing keeps, once stamp and value are written. -/
structure LVO (w wr : World) (S B : Nat) (s l c sh : Int) (A : Option Addr) (n cap : Nat) (ct cq v : Int) (z u : Value) (os : List Opn) : Prop where
  bel : Below w.heap.size w wr
  G : Box wr w.heap.size 26 #[.int .i64 s, .int .i64 l, .int .i64 c, .int .i64 sh, .slice A n cap]
  T : Box wr (w.heap.size + 1 + 1) 39 #[.int .i64 ct, .int .i64 cq]
  X : Box wr (w.heap.size + 1 + 1 + 1) 80 #[.int .i64 0, .int .i64 0, .int .i64 0, .slice none 0 0, .slice none 0 0]
  Y : Box wr S 80 #[.int .i64 ct, .int .i64 cq, .int .i64 v, z, u]
  hlo : w.heap.size + 1 + 1 + 1 < B
  hBS : B ≤ S
  V : OO wr B S u os
theorem LVO.later {w wr w' : World} {S B : Nat} {s l c sh : Int} {A : Option Addr} {n cap : Nat} {ct cq v : Int} {z u : Value} {os : List Opn} (h : LVO w wr S B s l c sh A n cap ct cq v z u os) (hb : Below wr.heap.size wr w') : LVO w w' S B s l c sh A n cap ct cq v z u os :=
  ⟨bel_trans h.bel hb, h.G.later hb h.G.lt, h.T.later hb h.T.lt, h.X.later hb h.X.lt, h.Y.later hb h.Y.lt, h.hlo, h.hBS, h.V.later hb⟩
theorem LVO.drew {w wr : World} {S B : Nat} {s l c sh : Int} {A : Option Addr} {n cap : Nat} {ct cq v : Int} {z u : Value} {os : List Opn} (h : LVO w wr S B s l c sh A n cap ct cq v z u os) : LVO w wr.drew S B s l c sh A n cap ct cq v z u os := h.later ((Below.refl _ _).drew)
theorem LWO.put {w wr : World} {S B : Nat} {s l c sh : Int} {A : Option Addr} {n cap : Nat} {rt rq rv : Int} {P : Option Addr} {p pc : Nat} {Q : Option Addr} {q qc : Nat} {ct cq : Int} {u u' : Value} {ps : List (Int × Int)} {os : List Opn} (h : LWO w wr S B s l c sh A n cap rt rq rv P p pc Q q qc ct cq u u' ps os) (v : Int) :
    LVO w (((wr.setCell ⟨S, 0, none⟩ (.int .i64 ct)).setCell ⟨S, 1, none⟩ (.int .i64 cq)).setCell ⟨S, 2, none⟩ (.int .i64 v)) S B s l c sh A n cap ct cq v u u' os := by
  have hlo := h.hlo
  have hBS := h.hBS
  have hw : w.heap.size ≤ S := by omega
  refine ⟨((h.bel.setCell (p := ⟨S, 0, none⟩) hw _).setCell (p := ⟨S, 1, none⟩) hw _).setCell (p := ⟨S, 2, none⟩) hw _, ?_, ?_, ?_, ((h.Y.set 0 _).set 1 _).set 2 _, hlo, hBS, ((h.V.farHi (Nat.le_refl _) 0 _).farHi (Nat.le_refl _) 1 _).farHi (Nat.le_refl _) 2 _⟩
  · exact ((h.G.far (p := ⟨S, 0, none⟩) (by show S ≠ _; omega) _).far (p := ⟨S, 1, none⟩) (by show S ≠ _; omega) _).far (p := ⟨S, 2, none⟩) (by show S ≠ _; omega) _
  · exact ((h.T.far (p := ⟨S, 0, none⟩) (by show S ≠ _; omega) _).far (p := ⟨S, 1, none⟩) (by show S ≠ _; omega) _).far (p := ⟨S, 2, none⟩) (by show S ≠ _; omega) _
  · exact ((h.X.far (p := ⟨S, 0, none⟩) (by show S ≠ _; omega) _).far (p := ⟨S, 1, none⟩) (by show S ≠ _; omega) _).far (p := ⟨S, 2, none⟩) (by show S ≠ _; omega) _
end Go.Proofs.YtjdepjpjjgkmbaaGreat

/- The model's l4Cert: a list of right seals, one's own. -/
namespace Go.Proofs.YtjdepjpjjgkmbaaGreat
open Go.RowKit

theorem quo_le (s l c sh : Int) (zs : List Int) : quoN s l c sh zs ≤ 20 := by
  unfold quoN
  split
  · rename_i h
    obtain ⟨b1, b2, b3, b4, b5, b6⟩ := okB_parts h
    omega
  · omega

/-- What l4Cert keeps. -/
structure LC (w wr : World) (s l c sh : Int) (A : Option Addr) (m cap' : Nat) (zs : List Int) (ck ch ct cq cv : Int) (p pc : Nat) (ps : List (Int × Int)) : Prop where
  bel : Below w.heap.size w wr
  gr : Box wr w.heap.size 26 #[.int .i64 s, .int .i64 l, .int .i64 c, .int .i64 sh, .slice A m cap']
  cl : Box wr (w.heap.size + 1) 180 #[.int .i64 ck, .int .i64 ch, .int .i64 ct, .int .i64 cq, .int .i64 cv]
  own : wr.ownsRow (w.heap.size + 2) 136 2 (.slice (some ⟨p, 0, none⟩) ps.length pc) ps.length (flatP ps)
  row : Row wr w.heap.size A m zs
section
variable {w wr w' : World} {s l c sh : Int} {A : Option Addr} {m cap' : Nat} {zs : List Int} {ck ch ct cq cv : Int} {p pc : Nat} {ps : List (Int × Int)}
theorem LC.later (h : LC w wr s l c sh A m cap' zs ck ch ct cq cv p pc ps) (hb : Below wr.heap.size wr w') : LC w w' s l c sh A m cap' zs ck ch ct cq cv p pc ps :=
  ⟨bel_trans h.bel hb, h.gr.later hb h.gr.lt, h.cl.later hb h.cl.lt, h.own.kept (grown_bel hb none) (by simp [Value.ownBlock]), h.row.below hb h.bel.size⟩
theorem LC.push {a b : Int} {ob : Obj} {gg cap2 : Nat} (h : LC w wr s l c sh A m cap' zs ck ch ct cq cv p pc ps)
    (hown : w'.ownsRow (w.heap.size + 2) 136 2 (.slice (some ⟨gg, 0, none⟩) (ps.length + 1) cap2) (ps.length + 1) (flatP ps ++ [.int .i64 a, .int .i64 b])) (hg : (wr.alloc ob).grownBy w' (Value.ownBlock (.slice (some ⟨p, 0, none⟩) ps.length pc))) : LC w w' s l c sh A m cap' zs ck ch ct cq cv gg cap2 (ps ++ [(a, b)]) := by
  have hp := (h.own.lt p rfl).1
  have hg : (wr.alloc ob).grownBy w' (some p) := hg
  have h2 := h.later (bel_alloc wr ob)
  have hB : Below w.heap.size w w' := bel_grown h2.bel hg (by omega)
  refine ⟨hB, h2.gr.kept hg (by intro e; injection e with e; omega), h2.cl.kept hg (by intro e; injection e with e; omega), ?_, h.row.keep fun q hq => ?_⟩
  · rw [flatP_snoc]
    simpa using hown
  · exact (hB.cell hq).trans (h.bel.cell hq).symm
end

/-- A list of at most twenty seals, one's own. -/
def MadeCertO (w : World) (e : Ending) (w' : World) : Prop :=
  ∃ (p pc : Nat) (ps : List (Int × Int)), e = .returned (.slice (some ⟨p, 0, none⟩) ps.length pc) ∧ w'.ownsRow w.heap.size 136 2 (.slice (some ⟨p, 0, none⟩) ps.length pc) ps.length (flatP ps) ∧ ps.length ≤ 20 ∧ Below w.heap.size w w'

set_option maxRecDepth 100000 in
set_option maxHeartbeats 4000000 in
theorem l4Cert_any (s l c sh : Int) (A : Option Addr) (m cap' : Nat) (zs : List Int) (ck ch ct cq cv : Int) (w : World) (hm : m ≤ maxLen) (hr : Row w w.heap.size A m zs) :
    Calls Tryz.prog 136 #[.agg #[.int .i64 s, .int .i64 l, .int .i64 c, .int .i64 sh, .slice A m cap'], .agg #[.int .i64 ck, .int .i64 ch, .int .i64 ct, .int .i64 cq, .int .i64 cv]] w (MadeCertO w) := by
  obtain ⟨i0, hi0, hz0, hz1, hz2⟩ := info_parts Tryz.infoSealI
  have K0 : LC w (((w.alloc (.cells #[.int .i64 s, .int .i64 l, .int .i64 c, .int .i64 sh, .slice A m cap'] 26)).alloc (.cells #[.int .i64 ck, .int .i64 ch, .int .i64 ct, .int .i64 cq, .int .i64 cv] 180)).alloc (.cells #[] 136)) s l c sh A m cap' zs ck ch ct cq cv (w.heap.size + 1 + 1) 0 [] := by
    have E := bel_trans (bel_trans (bel_alloc w (.cells #[.int .i64 s, .int .i64 l, .int .i64 c, .int .i64 sh, .slice A m cap'] 26)) (bel_alloc _ (.cells #[.int .i64 ck, .int .i64 ch, .int .i64 ct, .int .i64 cq, .int .i64 cv] 180))) (bel_alloc _ (.cells #[] 136))
    refine ⟨E, ((Box.new w _ _).alloc _).alloc _, ?_, ⟨rfl, .inr ⟨w.heap.size + 1 + 1, 0, #[], rfl, Nat.le_refl _, ?_, Nat.le_refl _, Nat.zero_le _, rfl, rfl⟩⟩, hr.below E (Nat.le_refl _)⟩
    · have := (Box.new (w.alloc (.cells #[.int .i64 s, .int .i64 l, .int .i64 c, .int .i64 sh, .slice A m cap'] 26)) 180 #[.int .i64 ck, .int .i64 ch, .int .i64 ct, .int .i64 cq, .int .i64 cv]).alloc (.cells #[] 136)
      simp only [World.size_alloc] at this
      exact this
    · have := Box.new ((w.alloc (.cells #[.int .i64 s, .int .i64 l, .int .i64 c, .int .i64 sh, .slice A m cap'] 26)).alloc (.cells #[.int .i64 ck, .int .i64 ch, .int .i64 ct, .int .i64 cq, .int .i64 cv] 180)) 136 #[]
      simp only [World.size_alloc] at this
      exact this
  have HM := Lib.hid hm
  have HQ := Lib.hid (quo_le s l c sh zs)
  clear hr hm
  go_enter Tryz.func136, Tryz.ntmps136
  go_wp2_with fail
  generalize (((w.alloc _).alloc _).alloc _ : World) = w1 at K0 ⊢
  go_loopw [5, 6] (fun ov iv wr => ∃ (i p pc : Nat) (ps : List (Int × Int)), i ≤ 20 ∧ iv = .int .i64 i ∧ ov = .slice (some ⟨p, 0, none⟩) ps.length pc ∧ ps.length ≤ i ∧ LC w wr s l c sh A m cap' zs ck ch ct cq cv p pc ps) (fun _ i _ => 20 - (intOf i).toNat)
  case atStart => exact ⟨0, _, 0, [], by omega, rfl, rfl, by simp, K0⟩
  case round =>
    obtain ⟨i, p, pc, ps, hi, rfl, rfl, hpl, hK⟩ := hrel
    clear K0
    obtain ⟨d0, d1, d2, d3, d4, x0, x1, x2, x3, x4⟩ := ten hK.gr hK.cl
    have HC := Lib.hid (specQuorum_any s l c sh A m cap' zs wr HM.out (hK.row.more hK.bel.size))
    generalize hqq : quoN s l c sh zs = qq at HC HQ
    have hqq := Lib.hid hqq
    go_wp2_with fail
    refine HC.out.mono ?_
    rintro e wq ⟨rfl, hbq⟩
    have hK := hK.later hbq
    clear HC d0 d1 d2 d3 d4 x0 x1 x2 x3 x4 hbq
    obtain ⟨d0, d1, d2, d3, d4, x0, x1, x2, x3, x4⟩ := ten hK.gr hK.cl
    by_cases hlt : (i : Int) < qq
    · have hi10 : i < 20 := by have := HQ.out; omega
      have hrow := hK.row.more hK.bel.size
      have C := specSeal_any s l c sh A m cap' zs ck ch ct cq cv i wq HM.out hrow
      rcases hse : seB s l c sh zs ck ch ct cq cv i with _ | _
      · rw [seV_no hse] at C
        have HC := Lib.hid C
        clear C hse hrow
        go_wp2_with fail
        refine HC.out.mono ?_
        rintro e w2 ⟨rfl, hb2⟩
        have HK3 := Lib.hid ((hK.later hb2).later (bel_alloc w2 (.cells #[.int .i64 0, .int .i64 0] 136)))
        clear hK HC d0 d1 d2 d3 d4 x0 x1 x2 x3 x4 hb2
        go_wp2
        go_roundw
        case rel => exact ⟨i + 1, p, pc, ps, by omega, by go_num, rfl, by omega, HK3.out⟩
        case measure => simp [intOf]; omega
      · rw [seV_yes hse] at C
        generalize tagN zs ck ch ct cq cv i = T at C
        have HC := Lib.hid C
        clear C hse hrow
        go_wp2_with fail
        refine HC.out.mono ?_
        rintro e w2 ⟨rfl, hb2⟩
        have K2 := hK.later hb2
        have hK := hK
        have K6 := K2.later (bel_alloc w2 (.cells #[.int .i64 i, .int .i64 T] 136))
        have DS := Box.new w2 136 #[.int .i64 i, .int .i64 T]
        clear hK HC d0 d1 d2 d3 d4 x0 x1 x2 x3 x4 hb2
        obtain ⟨y0, y1⟩ := DS.two
        have hw2 : w.heap.size + 2 ≤ w2.heap.size := by have := K2.cl.lt; omega
        have hw6s : (w2.alloc (.cells #[.int .i64 (i : Int), .int .i64 T] 136)).heap.size = w2.heap.size + 1 := by simp
        have hnew := heap_alloc_new (w2.alloc (.cells #[.int .i64 (i : Int), .int .i64 T] 136)) (.cells #[.int .i64 (i : Int), .int .i64 T] 136)
        rw [hw6s] at hnew
        have K6 := Lib.hid K6
        have hnew := Lib.hid hnew
        rename_i q1 q2
        clear q1 q2 hw6s
        go_wp2_with (at_builtin; refine wpList_append_lies _ rfl _ _ _ rfl (w.heap.size + 2) 136 i0 _ 2 16 Tryz.underlying40 hi0 hz0 hz1 hz2 rfl (by omega) (.slice (some ⟨p, 0, none⟩) (ps.length) pc) (ps.length) (flatP ps) rfl (K6.out.own.alloc _) ⟨w2.heap.size + 1, 0, none⟩ 1 1 [.int .i64 (i : Int), .int .i64 T] rfl rfl (World.news_of_block (cs := #[.int .i64 (i : Int), .int .i64 T]) (t := 136) (fr := (0, 0)) hnew.out) (by simp [Value.oneCell']) (by omega) (by unfold maxLen; omega) (by omega) (by simp; omega) (w2.heap.size + 2) (by simp) ?_; intro gg cap2 w7 hown7 hgrow7 hat7 hlt7; have K7 := K6.out.push hown7 hgrow7)
        have HK7 := Lib.hid K7
        clear K7 K6 DS hown7 hgrow7 hat7
        go_roundw
        case rel =>
          have hl2 : (ps ++ [((i : Int), T)]).length = ps.length + 1 := by simp
          exact ⟨i + 1, gg, cap2, ps ++ [((i : Int), T)], by omega, by go_num, by rw [hl2], by rw [hl2]; omega, HK7.out⟩
        case measure => simp [intOf]; omega
    · have HK := Lib.hid hK
      clear hK d0 d1 d2 d3 d4 x0 x1 x2 x3 x4
      go_wp2
      go_ret
      have ho := HK.out.own
      exact ⟨p, pc, ps, rfl, ownLow ho (by omega), by omega, HK.out.bel⟩

end Go.Proofs.YtjdepjpjjgkmbaaGreat

/- The model's l7Draw: a shelf of a group, its lists one's own. -/
namespace Go.Proofs.YtjdepjpjjgkmbaaGreat
open Go.RowKit Go.Deep

/-- What l7Draw keeps while it draws the opens. -/
structure RSt (w wr : World) (g : Nat) (A : Option Addr) (n cap : Nat) (s l c sh : Int) (q o m cap' : Nat) (zs : List Int) (v : Value) (os : List Opn) : Prop where
  cur : Cur wr 169 .i64 g A n cap
  grw : w.grownBy wr (some g)
  G : Box wr w.heap.size 26 #[.int .i64 s, .int .i64 l, .int .i64 c, .int .i64 sh, .slice (some ⟨q, o, none⟩) m cap']
  X : Box wr (w.heap.size + 1) 80 #[.int .i64 0, .int .i64 0, .int .i64 0, .slice none 0 0, .slice none 0 0]
  Y : Box wr (w.heap.size + 1 + 1) 80 #[.int .i64 0, .int .i64 0, .int .i64 0, .slice none 0 0, v]
  own : wr.ownsRow (w.heap.size + 3) 97 4 v os.length (flatO os)
  row : Row wr w.heap.size (some ⟨q, o, none⟩) m zs
/-- What is drawn: a shelf whose lists are one's own, and the cursor further on. -/
def DrawnReg (g : Nat) (A : Option Addr) (n cap : Nat) (w : World) (e : Ending) (w' : World) : Prop :=
  ∃ (a b d : Int) (u v : Value) (ps : List (Int × Int)) (os : List Opn), e = .returned (.agg #[.int .i64 a, .int .i64 b, .int .i64 d, u, v]) ∧ ps.length ≤ 20 ∧ os.length ≤ 6 ∧ w'.ownsRow w.heap.size 136 2 u ps.length (flatP ps) ∧ w'.ownsRow w.heap.size 97 4 v os.length (flatO os) ∧ (u.ownBlock = none ∨ u.ownBlock ≠ v.ownBlock) ∧ Cur w' 169 .i64 g A n cap ∧ w.grownBy w' (some g)
section
variable {w wr w' : World} {g : Nat} {A : Option Addr} {n cap : Nat} {s l c sh : Int} {q o m cap' : Nat} {zs : List Int} {v v' : Value} {os os' : List Opn}
theorem RSt.low (h : RSt w wr g A n cap s l c sh q o m cap' zs v os) (b : Nat) (e : v.ownBlock = some b) : w.heap.size + 3 ≤ b := (h.own.lt b e).1
theorem RSt.later (h : RSt w wr g A n cap s l c sh q o m cap' zs v os) (hb : Below wr.heap.size wr w') : RSt w w' g A n cap s l c sh q o m cap' zs v os :=
  ⟨h.cur.kept (grown_bel hb none) (fun q hq => by cases hq), grown_trans h.grw (grown_bel hb _), h.G.later hb h.G.lt, h.X.later hb h.X.lt, h.Y.later hb h.Y.lt, h.own.kept (grown_bel hb none) (by cases v.ownBlock <;> simp), h.row.below hb h.grw.size⟩
theorem RSt.draw (h : RSt w wr g A n cap s l c sh q o m cap' zs v os) (hgl : g < w.heap.size) (hgq : g ≠ q) (hg : wr.grownBy w' (some g)) (hc : Cur w' 169 .i64 g A n cap) : RSt w w' g A n cap s l c sh q o m cap' zs v os :=
  ⟨hc, grown_trans h.grw hg, h.G.kept hg (by intro e; injection e with e; omega), h.X.kept hg (by intro e; injection e with e; omega), h.Y.kept hg (by intro e; injection e with e; omega), h.own.kept hg (.inr (fun e => by have := h.low g e; omega)), h.row.keptB h.grw.size hg (fun k hk => by injection hk with hk; exact .inr (by omega))⟩
/-- An open more, and the list is laid back. -/
theorem RSt.push {wd : World} (h : RSt w wr g A n cap s l c sh q o m cap' zs v os) (hgl : g < w.heap.size) (gd : wr.grownBy wd v.ownBlock) (ho : wd.ownsRow (w.heap.size + 3) 97 4 v' os'.length (flatO os')) : RSt w (wd.setCell ⟨w.heap.size + 1 + 1, 4, none⟩ v') g A n cap s l c sh q o m cap' zs v' os' := by
  have hl := h.low
  have gs : wd.grownBy (wd.setCell ⟨w.heap.size + 1 + 1, 4, none⟩ v') (some (w.heap.size + 1 + 1)) := grown_set (grown_refl wd _) 4 v'
  have hne : ∀ b : Nat, b < w.heap.size + 3 → v.ownBlock ≠ some b := fun b hb e => by have := hl b e; omega
  have hrow := h.row.keptB h.grw.size gd (fun k hk => by have := hl k hk; exact .inl (by omega))
  refine ⟨(h.cur.kept gd (fun k hk => by have := hl k hk; omega)).kept gs (fun k hk => by injection hk with hk; omega), grown_far (grown_far h.grw gd (fun k hk => by have := hl k hk; omega)) gs (fun k hk => by injection hk with hk; omega), (h.G.kept gd (hne _ (by omega))).kept gs (by intro e; injection e with e; omega), (h.X.kept gd (hne _ (by omega))).kept gs (by intro e; injection e with e; omega), (h.Y.kept gd (hne _ (by omega))).set 4 v', ho.kept gs (.inr (fun e => by have := (ho.lt _ e).1; omega)), hrow.keptB (Nat.le_trans h.grw.size gd.size) gs (fun k hk => by injection hk with hk; exact .inl (by omega))⟩
/-- A cell of a block behind the shelf's is written. -/
theorem RSt.far (h : RSt w wr g A n cap s l c sh q o m cap' zs v os) (hgl : g < w.heap.size) {S : Nat} (hS : w.heap.size + 1 + 1 < S) (hv : ∀ b, v.ownBlock = some b → b ≠ S) (k : Nat) (u : Value) : RSt w (wr.setCell ⟨S, k, none⟩ u) g A n cap s l c sh q o m cap' zs v os := by
  have hg : wr.grownBy (wr.setCell ⟨S, k, none⟩ u) (some S) := grown_set (grown_refl wr _) k u
  exact ⟨h.cur.kept hg (fun r hr => by injection hr with hr; omega), grown_new h.grw (p := ⟨S, k, none⟩) (show w.heap.size ≤ S by omega) u, h.G.kept hg (by intro e; injection e with e; omega), h.X.kept hg (by intro e; injection e with e; omega), h.Y.kept hg (by intro e; injection e with e; omega), h.own.kept hg (.inr (fun e => hv S e rfl)), h.row.keptB h.grw.size hg (fun k hk => by injection hk with hk; exact .inl (by omega))⟩
/-- Nothing written: the shelf is answered as it is. -/
theorem RSt.fin (h : RSt w wr g A n cap s l c sh q o m cap' zs v os) (hgl : g < w.heap.size) (hol : os.length ≤ 6) (x0 x1 x2 x3 x4 : Value) :
    DrawnReg g A n cap w (.returned (.agg #[.int .i64 0, .int .i64 0, .int .i64 0, .slice none 0 0, v])) (((((wr.setCell ⟨w.heap.size + 1, 0, none⟩ x0).setCell ⟨w.heap.size + 1, 1, none⟩ x1).setCell ⟨w.heap.size + 1, 2, none⟩ x2).setCell ⟨w.heap.size + 1, 3, none⟩ x3).setCell ⟨w.heap.size + 1, 4, none⟩ x4) := by
  have gs := grown5 wr (w.heap.size + 1) x0 x1 x2 x3 x4
  exact ⟨0, 0, 0, _, v, [], os, rfl, by simp, hol, ⟨rfl, .inl ⟨rfl, rfl⟩⟩, ownLow (h.own.kept gs (.inr (fun e => by have := h.low _ e; omega))) (by omega), .inl rfl, h.cur.kept gs (fun k hk => by injection hk with hk; omega), grown_far h.grw gs (fun k hk => by injection hk with hk; omega)⟩
end

end Go.Proofs.YtjdepjpjjgkmbaaGreat

/- What the model's draw of a record leaves: a record of its own; the cursor is a right one (written by draw9.py); conditions: the group's numbers. -/
namespace Go.Proofs.YtjdepjpjjgkmbaaGreat
open Go Go.RowKit

/-- The state of a draw over a group: the cursor, the group's variable, the answer's. -/
structure D9 (w wr : World) (g : Nat) (A : Option Addr) (n cap : Nat) (s l c sh : Int) (q o m cap' : Nat) (zs : List Int) : Prop where
  cur : Cur wr 169 .i64 g A n cap
  G : Box wr w.heap.size 26 #[.int .i64 s, .int .i64 l, .int .i64 c, .int .i64 sh, .slice (some ⟨q, o, none⟩) m cap']
  R : Box wr (w.heap.size + 1) 46 #[.int .i64 0, .int .i64 0, .int .i64 0, .int .i64 0, .int .i64 0, .int .i64 0, .int .i64 0, .slice none 0 0, .int .i64 0]
  row : Row wr wr.heap.size (some ⟨q, o, none⟩) m zs
  grw : w.grownBy wr (some g)
  gl : g < w.heap.size
  gq : g ≠ q
theorem D9.draw {w wr w' : World} {g : Nat} {A : Option Addr} {n cap : Nat} {s l c sh : Int} {q o m cap' : Nat} {zs : List Int} (h : D9 w wr g A n cap s l c sh q o m cap' zs) (hg : wr.grownBy w' (some g)) (hc : Cur w' 169 .i64 g A n cap) : D9 w w' g A n cap s l c sh q o m cap' zs := by
  have h1 := h.gl
  have hz := hg.size
  refine ⟨hc, h.G.kept hg (by intro e; injection e with e; omega), h.R.kept hg (by intro e; injection e with e; omega), ?_, grown_trans h.grw hg, h.gl, h.gq⟩
  refine ⟨h.row.1, fun hn => ?_⟩
  obtain ⟨b, o', hA, hb, hcc⟩ := h.row.2 hn
  cases hA
  exact ⟨_, _, rfl, Nat.lt_of_lt_of_le hb hg.size, fun i hi => (World.cell?_of_block (a := ⟨q, o + i, none⟩) (hg.block q hb (fun e => by injection e with e; exact h.gq e.symm))).trans (hcc i hi)⟩
theorem D9.later {w wr w' : World} {g : Nat} {A : Option Addr} {n cap : Nat} {s l c sh : Int} {q o m cap' : Nat} {zs : List Int} (h : D9 w wr g A n cap s l c sh q o m cap' zs) (hb : Below wr.heap.size wr w') : D9 w w' g A n cap s l c sh q o m cap' zs :=
  h.draw (grown_bel hb (some g)) (h.cur.kept (grown_bel hb none) (fun q hq => by cases hq))

theorem results_row {P : Program} {fn : Func} {x : Tmp} {ty : TypeId} (h : fn.results = #[.cell x ty]) (tmps : Array Value) (w : World) (g : Nat) (t : TypeId) (cs : Array Value) (d : TypeDesc)
    (hx : tmps.getD x undef = .pointer (some ⟨g, 0, none⟩)) (hg : Box w g t cs)
    (hu : P.underlying ty = some d) (hd : (match d with | .struct _ | .array _ _ => true | _ => false) = true) (hi : (P.info? ty).map (·.size) = some cs.size) :
    (results fn tmps).run P w = .ok (.agg cs) w := by
  have ex : tmps[x]?.getD undef = .pointer (some ⟨g, 0, none⟩) := by simpa using hx
  simp [results, h, ex, asAddr, run_loadVar_row w g t ty cs (0, 0) d hg hu hd hi]
/-- A record of one's own was drawn. -/
def DrawnR (g : Nat) (A : Option Addr) (n cap : Nat) (w : World) (e : Ending) (w' : World) : Prop :=
  ∃ (C : Array Value) (d : RecD), e = .returned (.agg C) ∧ LieCR d w' (Iv w.heap.size w'.heap.size) (.agg C) ∧ d.ps.length ≤ 20 ∧ Cur w' 169 .i64 g A n cap ∧ w.grownBy w' (some g)
/-- The record is laid into the variable of the answer. -/
theorem drawnR_put {w wr : World} {g : Nat} {A : Option Addr} {n cap : Nat} {s l c sh : Int} {q o m cap' : Nat} {zs : List Int} {d : RecD} {C : Array Value} {N : Nat} (h : D9 w wr g A n cap s l c sh q o m cap' zs) (hL : LieCR d wr (Iv N wr.heap.size) (.agg C)) (hN : w.heap.size + 1 < N) :
    Box (wr.setRow (w.heap.size + 1) C) (w.heap.size + 1) 46 C ∧ LieCR d (wr.setRow (w.heap.size + 1) C) (Iv w.heap.size (wr.setRow (w.heap.size + 1) C).heap.size) (.agg C) ∧ Cur (wr.setRow (w.heap.size + 1) C) 169 .i64 g A n cap ∧ w.grownBy (wr.setRow (w.heap.size + 1) C) (some g) := by
  have ht := turns_setRow wr (w.heap.size + 1) C
  have hg : wr.grownBy (wr.setRow (w.heap.size + 1) C) (some (w.heap.size + 1)) := ⟨ht.os, ht.tape, ht.output, ht.size, fun i hi hne => ht.block i hi (fun e => hne (by rw [e]))⟩
  have h1 := h.gl
  refine ⟨h.R.setRow C, (keepsCR d).sub ((keepsCR d).turn hL ht (iv_one (.inl (by omega)))) (fun b hb => ⟨by have := hb.1; omega, by have := hb.2; rw [size_setRow]; exact this⟩), h.cur.kept hg (fun q hq => by injection hq with hq; omega), ?_⟩
  exact ⟨ht.os.trans h.grw.os, ht.tape.trans h.grw.tape, ht.output.trans h.grw.output, Nat.le_trans h.grw.size ht.size, fun i hi hne => (ht.block i (Nat.lt_of_lt_of_le hi h.grw.size) (by omega)).trans (h.grw.block i hi hne)⟩

set_option maxRecDepth 100000 in
set_option maxHeartbeats 8000000 in
theorem l9Draw_any (g : Nat) (A : Option Addr) (n cap : Nat) (s l c sh : Int) (q o m cap' : Nat) (zs : List Int) (no : Int) (w : World) (hm : m ≤ maxLen) (hc1 : 1 ≤ c) (hc6 : c ≤ 6) (hs0 : 0 ≤ s) (hs9 : s ≤ 10) (hh1 : 1 ≤ sh) (hh4 : sh ≤ 4) (hc : Cur w 169 .i64 g A n cap) (hr : Row w w.heap.size (some ⟨q, o, none⟩) m zs) (hgq : g ≠ q) :
    Calls Tryz.prog 76 #[.pointer (some ⟨g, 0, none⟩), .agg #[.int .i64 s, .int .i64 l, .int .i64 c, .int .i64 sh, .slice (some ⟨q, o, none⟩) m cap'], .int .i64 no] w (DrawnR g A n cap w) := by
  have hgl := hc.lt
  have K : D9 w ((w.alloc (.cells #[.int .i64 s, .int .i64 l, .int .i64 c, .int .i64 sh, .slice (some ⟨q, o, none⟩) m cap'] 26)).alloc (.cells #[.int .i64 0, .int .i64 0, .int .i64 0, .int .i64 0, .int .i64 0, .int .i64 0, .int .i64 0, .slice none 0 0, .int .i64 0] 46)) g A n cap s l c sh q o m cap' zs := by
    have E := bel_trans (bel_alloc w (.cells #[.int .i64 s, .int .i64 l, .int .i64 c, .int .i64 sh, .slice (some ⟨q, o, none⟩) m cap'] 26)) (bel_alloc _ (.cells #[.int .i64 0, .int .i64 0, .int .i64 0, .int .i64 0, .int .i64 0, .int .i64 0, .int .i64 0, .slice none 0 0, .int .i64 0] 46))
    refine ⟨hc.kept (grown_bel E none) (fun q hq => by cases hq), (Box.new w 26 #[.int .i64 s, .int .i64 l, .int .i64 c, .int .i64 sh, .slice (some ⟨q, o, none⟩) m cap']).alloc _, ?_, (hr.below E (Nat.le_refl _)).more E.size, grown_bel E _, hgl, hgq⟩
    have := Box.new (w.alloc (.cells #[.int .i64 s, .int .i64 l, .int .i64 c, .int .i64 sh, .slice (some ⟨q, o, none⟩) m cap'] 26)) 46 #[.int .i64 0, .int .i64 0, .int .i64 0, .int .i64 0, .int .i64 0, .int .i64 0, .int .i64 0, .slice none 0 0, .int .i64 0]
    simp only [World.size_alloc] at this
    exact this
  clear hr hc
  have HM := Lib.hid hm
  clear hm
  go_enter Tryz.func76, Tryz.ntmps76
  go_upto_region 1 with fail
  generalize ((w.alloc _).alloc _ : World) = w0 at K ⊢
  obtain ⟨d0, d1, d2, d3, d4⟩ := K.G.five
  go_region_held3 (fun w' => w'.cell? ⟨w.heap.size, 0, none⟩ = some (.int .i64 s) ∧ w'.cell? ⟨w.heap.size, 2, none⟩ = some (.int .i64 c))
    (first | (with_reducible exact J1) | go_keep)
    (first | (go_at_call 67; refine (l1Below_any g A n cap c _ (by omega) ?_).mono ?_; exact K.cur; rintro e w1 ⟨k, ⟨hk0, hk1⟩, rfl, hc1, hg1⟩; have K1 := K.draw (grown_of_drew hg1) hc1; have J1 := And.intro (K1.G.cell 0) (K1.G.cell 2); have hw : IntKind.i64.wrap (s + k) = s + k := IntWalk.i64_in _ (by omega)))
  clear K J1 d0 d1 d2 d3 d4 hc1 hg1 hw
  generalize s + k = kk
  go_wp2_with fail
  refine (l1Below_any g A n cap 4 w1 (by omega) K1.cur).mono ?_
  rintro e w2 ⟨ct, ⟨h0, h1⟩, rfl, hc2, hg2⟩
  have K2 := K1.draw hg2 hc2
  clear K1 hc2 hg2
  have hw : IntKind.i64.wrap (1 + ct) = 1 + ct := IntWalk.i64_in _ (by omega)
  go_upto_region 3 with fail
  clear hw
  generalize 1 + ct = tt
  have S3 := Box.new w2 39 #[.int .i64 tt, .int .i64 kk]
  have hn := bel_alloc w2 (.cells #[.int .i64 tt, .int .i64 kk] 39)
  have K3 := K2.later hn
  have hS := K2.R.lt
  clear K2 hn h0 h1
  generalize (w2.alloc _ : World) = w3 at K3 S3 ⊢
  generalize w2.heap.size = S at S3 hS ⊢
  obtain ⟨d0, d1, d2, d3, d4⟩ := K3.G.five
  go_wp2_with fail
  refine (l1Below_any g A n cap sh w3 (by omega) K3.cur).mono ?_
  rintro e w4 ⟨x, ⟨_, _⟩, rfl, hc4, hg4⟩
  have K4 := K3.draw hg4 hc4
  have S4 := S3.kept hg4 (by intro e; injection e with e; have := K3.gl; omega)
  clear K3 S3 hc4 hg4 d0 d1 d2 d3 d4
  go_wp2_with fail
  refine (l1Below_any g A n cap 4 w4 (by omega) K4.cur).mono ?_
  rintro e w5 ⟨v, ⟨_, _⟩, rfl, hc5, hg5⟩
  have K5 := K4.draw hg5 hc5
  have S5 := S4.kept hg5 (by intro e; injection e with e; have := K4.gl; omega)
  clear K4 S4 hc5 hg5
  go_wp2_with fail
  refine (l1Once_any g A n cap 2 w5 (by omega) K5.cur).mono ?_
  rintro e w6 ⟨y, rfl, hc6, hg6⟩
  have K6 := K5.draw hg6 hc6
  have S6 := S5.kept hg6 (by intro e; injection e with e; have := K5.gl; omega)
  clear K5 S5 hc6 hg6
  have JR := Lib.hid (show (Tryz.prog.info? 46).map (·.size) = some 9 from by kernel_rfl)
  rcases y with _ | _
  case true =>
    obtain ⟨s0, s1⟩ := S6.two
    have hn := bel_alloc w6 (.cells #[] 136)
    have hsl : Slc (w6.alloc (.cells #[] 136)) (.slice (some ⟨w6.heap.size, 0, none⟩) 0 0) [] := .inr ⟨_, 0, 0, 0, rfl, ⟨rfl, fun h => absurd h (by omega)⟩⟩
    have K7 := K6.later hn
    clear S6 K6 hn
    go_wp2_with fail
    generalize (w6.alloc _ : World) = w7 at K7 hsl ⊢
    refine (specNewRow_is no 1 x kk tt kk v _ [] w7 (by simp) hsl).mono ?_
    rintro e w8 ⟨C, rfl, L, hb⟩
    have K8 := K7.later hb
    have hz := K7.R.lt
    clear K7 hb hsl s0 s1
    have hdl : ([] : List (Int × Int)).length ≤ 20 := by simp
    have IG := Lib.hid (oneC L.lie.at)
    have IS := Lib.hid (sizeC L.lie.at).2
    obtain ⟨B, L7, C7, G7⟩ := drawnR_put K8 L (by omega)
    replace L7 := Lib.hid L7
    replace C7 := Lib.hid C7
    replace G7 := Lib.hid G7
    replace B := Lib.hid B
    have X := K8.R
    clear K8 L
    go_wp2_with (refine wpList_store_row rfl 46 _ _ rfl (w.heap.size + 1) _ rfl rfl 46 #[.int .i64 0, .int .i64 0, .int .i64 0, .int .i64 0, .int .i64 0, .int .i64 0, .int .i64 0, .slice none 0 0, .int .i64 0] X IS.out IG.out.1.symm IG.out.2 ?_)
    exact bodyPost_ret (v := .agg C) (results_row (Tryz.results76) _ _ (w.heap.size + 1) 46 C _ rfl B.out Tryz.underlying46 rfl IS.out) rfl ⟨C, _, rfl, L7.out, hdl, C7.out, G7.out⟩
  case false =>
    go_upto_region 7 with fail
    refine wp_region_sink 12 (fun w' => Box w' w.heap.size 26 #[.int .i64 s, .int .i64 l, .int .i64 c, .int .i64 sh, .slice (some ⟨q, o, none⟩) m cap'] ∧ Box w' S 39 #[.int .i64 tt, .int .i64 kk]) (by kernel_rfl) ⟨K6.G, S6⟩ (fun hH => ?_)
    have hb := (Below.refl w6.heap.size w6).drew
    replace K6 := K6.later hb
    replace S6 := S6.later hb S6.lt
    clear hb
    generalize w6.drew = w7 at K6 S6 hH ⊢
    refine wpAnyE_takeS (i := 2) (v := .agg #[.int .i64 tt, .int .i64 kk]) (by simp only [List.getElem?_toArray, List.getElem?_cons_succ, List.getElem?_cons_zero]; rfl) (by kernel_rfl) (by kernel_rfl) (by kernel_rfl) (by exact fun _ _ _ h => h) (by kernel_rfl) ?ys2 hH ?_
    case ys2 => exact yields_box 39 _ rfl S rfl 39 #[.int .i64 tt, .int .i64 kk] (fun _ h => h.2) _ Tryz.underlying39 rfl (by kernel_rfl) (by first | rfl | simp [Region.wanted, yielded] | (simp [Region.wanted, yielded, Act.put] <;> omega))
    try simp only [Act.put, List.setIfInBounds_toArray, List.set_cons_zero, List.set_cons_succ]
    refine wpAnyE_takeS (i := 6) (v := .agg #[.int .i64 tt, .int .i64 kk]) (by simp only [List.getElem?_toArray, List.getElem?_cons_succ, List.getElem?_cons_zero]; rfl) (by kernel_rfl) (by kernel_rfl) (by kernel_rfl) (by exact fun _ _ _ h => h) (by kernel_rfl) ?ys6 hH ?_
    case ys6 => exact yields_box 39 _ rfl S rfl 39 #[.int .i64 tt, .int .i64 kk] (fun _ h => h.2) _ Tryz.underlying39 rfl (by kernel_rfl) (by first | rfl | simp [Region.wanted, yielded] | (simp [Region.wanted, yielded, Act.put] <;> omega))
    try simp only [Act.put, List.setIfInBounds_toArray, List.set_cons_zero, List.set_cons_succ]
    refine wpAnyE_takeS (i := 4) (v := .agg #[.int .i64 s, .int .i64 l, .int .i64 c, .int .i64 sh, .slice (some ⟨q, o, none⟩) m cap']) (by simp only [List.getElem?_toArray, List.getElem?_cons_succ, List.getElem?_cons_zero]; rfl) (by kernel_rfl) (by kernel_rfl) (by kernel_rfl) (by exact fun _ _ _ h => h) (by kernel_rfl) ?yg hH ?_
    case yg => exact yields_box 26 _ rfl (w.heap.size) rfl 26 #[.int .i64 s, .int .i64 l, .int .i64 c, .int .i64 sh, .slice (some ⟨q, o, none⟩) m cap'] (fun _ h => h.1) _ Tryz.underlying26 rfl (by kernel_rfl) (by first | rfl | simp [Region.wanted, yielded] | (simp [Region.wanted, yielded, Act.put] <;> omega))
    try simp only [Act.put, List.setIfInBounds_toArray, List.set_cons_zero, List.set_cons_succ]
    refine wpAnyE_pure (i := 0) (v := ?vp0) (by simp only [List.getElem?_toArray, List.getElem?_cons_zero]; rfl) (by kernel_rfl) (by kernel_rfl) (by kernel_rfl) (by exact fun _ _ _ h => h) (by kernel_rfl) (Or.inl ⟨by rfl, ?yp0⟩) hH ?rp0
    case yp0 => (intro w' hSw; (try dsimp only at hSw); go_simp; try with_reducible rfl)
    try simp only [Act.put, List.setIfInBounds_toArray, List.set_cons_zero, List.set_cons_succ]
    refine wpAnyE_pure (i := 1) (v := ?vp1) (by simp only [List.getElem?_toArray, List.getElem?_cons_succ, List.getElem?_cons_zero]; rfl) (by kernel_rfl) (by kernel_rfl) (by kernel_rfl) (by exact fun _ _ _ h => h) (by kernel_rfl) (Or.inl ⟨by rfl, ?yp1⟩) hH ?rp1
    case yp1 => (intro w' hSw; (try dsimp only at hSw); go_simp; try with_reducible rfl)
    try simp only [Act.put, List.setIfInBounds_toArray, List.set_cons_zero, List.set_cons_succ]
    refine wpAnyE_pure (i := 3) (v := ?vp3) (by simp only [List.getElem?_toArray, List.getElem?_cons_succ, List.getElem?_cons_zero]; rfl) (by kernel_rfl) (by kernel_rfl) (by kernel_rfl) (by exact fun _ _ _ h => h) (by kernel_rfl) (Or.inl ⟨by rfl, ?yp3⟩) hH ?rp3
    case yp3 => (intro w' hSw; (try dsimp only at hSw); go_simp; try with_reducible rfl)
    try simp only [Act.put, List.setIfInBounds_toArray, List.set_cons_zero, List.set_cons_succ]
    refine wpAnyE_pure (i := 5) (v := ?vp5) (by simp only [List.getElem?_toArray, List.getElem?_cons_succ, List.getElem?_cons_zero]; rfl) (by kernel_rfl) (by kernel_rfl) (by kernel_rfl) (by exact fun _ _ _ h => h) (by kernel_rfl) (Or.inl ⟨by rfl, ?yp5⟩) hH ?rp5
    case yp5 => (intro w' hSw; (try dsimp only at hSw); go_simp; try with_reducible rfl)
    try simp only [Act.put, List.setIfInBounds_toArray, List.set_cons_zero, List.set_cons_succ]
    refine wpAnyE_pure (i := 7) (v := ?vp7) (by simp only [List.getElem?_toArray, List.getElem?_cons_succ, List.getElem?_cons_zero]; rfl) (by kernel_rfl) (by kernel_rfl) (by kernel_rfl) (by exact fun _ _ _ h => h) (by kernel_rfl) (Or.inl ⟨by rfl, ?yp7⟩) hH ?rp7
    case yp7 => (intro w' hSw; (try dsimp only at hSw); go_simp; try with_reducible rfl)
    try simp only [Act.put, List.setIfInBounds_toArray, List.set_cons_zero, List.set_cons_succ]
    refine wpAnyE_one (i := 8) (by kernel_rfl) (by simp only [List.getElem?_toArray, List.getElem?_cons_succ, List.getElem?_cons_zero]; rfl) (fun K hK => ?_)
    go_simp
    refine (l4Ready_is x tt kk v w7).mono ?_
    rintro e w8 ⟨rfl, hb⟩
    replace K6 := K6.later hb
    replace S6 := S6.later hb S6.lt
    clear hb
    clear hH
    refine hK.out _ _ ⟨K6.G, S6⟩ (fun hH => ?_)
    clear hK K
    try simp only [Act.put, List.setIfInBounds_toArray, List.set_cons_zero, List.set_cons_succ]
    refine wpAnyE_one (i := 9) (by kernel_rfl) (by simp only [List.getElem?_toArray, List.getElem?_cons_succ, List.getElem?_cons_zero]; rfl) (fun K hK => ?_)
    go_simp
    refine (l4Cert_any s l c sh (some ⟨q, o, none⟩) m cap' zs 1 x tt kk v w8 HM.out K6.row).mono ?_
    rintro e w9 ⟨p, pc, ps, rfl, hO, hpl, hb⟩
    replace K6 := K6.later hb
    replace S6 := S6.later hb S6.lt
    have hsl := (rowC_of hO).own
    have hz := K6.R.lt
    clear hb hO
    clear hH
    refine hK.out _ _ ⟨K6.G, S6⟩ (fun hH => ?_)
    clear hK K
    try simp only [Act.put, List.setIfInBounds_toArray, List.set_cons_zero, List.set_cons_succ]
    refine wpAnyE_one (i := 10) (by kernel_rfl) (by simp only [List.getElem?_toArray, List.getElem?_cons_succ, List.getElem?_cons_zero]; rfl) (fun K hK => ?_)
    go_simp
    obtain ⟨_, _, _, _, _, hslc⟩ := OwnP.at hsl
    refine (specNewRow_is no 2 x 0 tt kk v _ ps w9 (by omega) hslc).mono ?_
    rintro e w10 ⟨C, rfl, L, hb⟩
    replace K6 := K6.later hb
    replace S6 := S6.later hb S6.lt
    clear hb hsl hslc
    clear hH
    refine hK.out _ _ ⟨K6.G, S6⟩ (fun hH => ?_)
    clear hK K
    try simp only [Act.put, List.setIfInBounds_toArray, List.set_cons_zero, List.set_cons_succ]
    have IG := Lib.hid (oneC L.lie.at)
    have IS := Lib.hid (sizeC L.lie.at).2
    obtain ⟨B, L7, C7, G7⟩ := drawnR_put K6 L (by omega)
    have ht := turns_setRow w10 (w.heap.size + 1) C
    refine wpAnyE_end (i := 11) (by kernel_rfl) (by simp only [List.getElem?_toArray, List.getElem?_cons_succ, List.getElem?_cons_zero]; rfl) (by kernel_rfl) (fun K hK => ?_)
    rw [if_pos (by first | rfl | kernel_rfl | simp [Region.wanted, yielded])]
    refine wp_store_row 46 _ _ rfl (w.heap.size + 1) C rfl rfl 46 #[.int .i64 0, .int .i64 0, .int .i64 0, .int .i64 0, .int .i64 0, .int .i64 0, .int .i64 0, .slice none 0 0, .int .i64 0] K6.R IS.out IG.out.1.symm IG.out.2 ?_
    refine hK.out _ _ ⟨K6.G.turn ht (by omega), S6.turn ht (by omega)⟩ ?_
    clear hK K
    try simp only [Act.put]
    clear hH K6 S6 L ht
    replace L7 := Lib.hid L7
    replace C7 := Lib.hid C7
    replace G7 := Lib.hid G7
    replace B := Lib.hid B
    have hdl := hpl
    go_wp2_with fail
    exact bodyPost_ret (v := .agg C) (results_row (Tryz.results76) _ _ (w.heap.size + 1) 46 C _ rfl B.out Tryz.underlying46 rfl IS.out) rfl ⟨C, _, rfl, L7.out, hdl, C7.out, G7.out⟩

end Go.Proofs.YtjdepjpjjgkmbaaGreat

/- A list of records in memory: read through blocks of F alone; no conditions. -/
namespace Go.Proofs.YtjdepjpjjgkmbaaGreat
open Go Go.RowKit

/-- The record d, with the list u, stands at this place. -/
def RecAt (w : World) (b o : Nat) (d : RecD) (u : Value) : Prop :=
  w.cell? ⟨b, o, none⟩ = some (.int .i64 d.r1) ∧ w.cell? ⟨b, o + 1, none⟩ = some (.int .i64 d.r2) ∧ w.cell? ⟨b, o + 2, none⟩ = some (.int .i64 d.r3) ∧ w.cell? ⟨b, o + 3, none⟩ = some (.int .i64 d.r4) ∧ w.cell? ⟨b, o + 4, none⟩ = some (.int .i64 d.r5) ∧ w.cell? ⟨b, o + 5, none⟩ = some (.int .i64 d.r6) ∧ w.cell? ⟨b, o + 6, none⟩ = some (.int .i64 d.r7) ∧ w.cell? ⟨b, o + 7, none⟩ = some u ∧ w.cell? ⟨b, o + 8, none⟩ = some (.int .i64 d.r8)
theorem RecAt.turn {w w' : World} {b o : Nat} {d : RecD} {u : Value} {T : Nat → Prop} (h : RecAt w b o d u) (hb : b < w.heap.size) (ht : Turns T w w') (hT : ¬ T b) : RecAt w' b o d u := by
  have F : ∀ k, w'.cell? ⟨b, k, none⟩ = w.cell? ⟨b, k, none⟩ := fun k => ht.cell hb hT k
  unfold RecAt
  simp only [F]
  exact h
def RecsF (ds : List RecD) (w : World) (F : Nat → Prop) (A : Option Addr) (n : Nat) : Prop :=
  ds.length = n ∧ (0 < n → ∃ b o, A = some ⟨b, o, none⟩ ∧ F b ∧ b < w.heap.size ∧ ∀ i (h : i < ds.length), ∃ L m mc, RecAt w b (o + i * 9) ds[i] (.slice L m mc) ∧ m ≤ maxLen ∧ PairsF w F L m (ds[i]).ps)
theorem RecsF.turn {T : Nat → Prop} {w w' : World} {F : Nat → Prop} {A : Option Addr} {n : Nat} {ds : List RecD} (h : RecsF ds w F A n) (ht : Turns T w w') (hd : ∀ b, F b → ¬ T b) : RecsF ds w' F A n := by
  refine ⟨h.1, fun hn => ?_⟩
  obtain ⟨b, o, hA, hF, hb, hc⟩ := h.2 hn
  refine ⟨b, o, hA, hF, Nat.lt_of_lt_of_le hb ht.size, fun i hi => ?_⟩
  obtain ⟨L, m, mc, h1, h2, h3⟩ := hc i hi
  exact ⟨L, m, mc, h1.turn hb ht (hd b hF), h2, h3.turn ht hd⟩
theorem RecsF.later {w w' : World} {F : Nat → Prop} {A : Option Addr} {n : Nat} {ds : List RecD} (h : RecsF ds w F A n) (hb : Below w.heap.size w w') : RecsF ds w' F A n := h.turn (T := fun _ => False) (Turns.of_below hb) (fun _ _ h => h)
theorem RecsF.sub {w : World} {F F' : Nat → Prop} {A : Option Addr} {n : Nat} {ds : List RecD} (h : RecsF ds w F A n) (hs : ∀ b, F b → F' b) : RecsF ds w F' A n := by
  refine ⟨h.1, fun hn => ?_⟩
  obtain ⟨b, o, hA, hF, hb, hc⟩ := h.2 hn
  refine ⟨b, o, hA, hs b hF, hb, fun i hi => ?_⟩
  obtain ⟨L, m, mc, h1, h2, h3⟩ := hc i hi
  exact ⟨L, m, mc, h1, h2, h3.1, fun hn b o e => hs b (h3.2 hn b o e)⟩
end Go.Proofs.YtjdepjpjjgkmbaaGreat

/- Written: the program's and the model's: contracts of each of them. -/
namespace Go.Proofs.YtjdepjpjjgkmbaaGreat
open Go.RowKit

theorem slc_pairs {w : World} {P : Option Addr} {p pc : Nat} {ps : List (Int × Int)} (h : Slc w (.slice P p pc) ps) : Pairs w w.heap.size P p ps := by
  rcases h with ⟨e, rfl⟩ | ⟨b, o, n, cap, e, hp⟩
  · injection e with e1 e2 _
    subst e1 e2
    exact ⟨rfl, fun h => absurd h (by omega)⟩
  · injection e with e1 e2 _
    subst e1 e2
    exact hp
theorem slcQ_quads {w : World} {P : Option Addr} {p pc : Nat} {os : List Opn} (h : SlcQ w (.slice P p pc) os) : Quads w w.heap.size P p os := by
  rcases h with ⟨e, rfl⟩ | ⟨b, o, n, cap, e, _, _, hp⟩
  · injection e with e1 e2 _
    subst e1 e2
    exact quads_nil _ _ _
  · injection e with e1 e2 _
    subst e1 e2
    exact hp

/-- What Written answers: a stamp, a value, seals, opens, a flag. -/
structure Out where
  t : Int
  q : Int
  v : Int
  cs : List (Int × Int)
  os : List Opn
  f : Bool
def outW (s l c sh : Int) (zs : List Int) (x rt rq rv : Int) (ps : List (Int × Int)) (os : List Opn) (ct cq v : Int) (cs : List (Int × Int)) : Out :=
  if regB s l c sh zs x rt rq rv ps os = false then ⟨0, 0, 0, [], [], false⟩
  else if wrtB s l c sh zs x ct cq v cs = false then ⟨rt, rq, rv, ps, os, false⟩
  else if cmpN ct cq rt rq = 1 then ⟨ct, cq, v, goodP (rB s l c sh zs 1 x ct cq v) cs, os, true⟩
  else ⟨rt, rq, rv, ps, os, true⟩
theorem reg_stamp {s l c sh : Int} {zs : List Int} {x rt rq rv : Int} {ps : List (Int × Int)} {os : List Opn} (h : regB s l c sh zs x rt rq rv ps os = true) : stB rt rq = true := by
  unfold regB at h
  rw [Bool.and_eq_true, ← lefB_spec] at h
  have := h.1
  unfold spcB at this
  simp only [Bool.and_eq_true] at this
  exact this.1.1.1
theorem cmp_pos {a b c d : Int} (h1 : stB a b = true) (h2 : stB c d = true) : 0 < cmpN a b c d ↔ cmpN a b c d = 1 := by
  rw [cmpN_yes h1 h2]
  have g1 := sgn_bd a c
  have g2 := sgn_bd b d
  unfold orN
  split <;> omega
/-- A shelf and a flag that are answered: its lists lie in blocks of their own. -/
def WrR (w : World) (o : Out) (e : Ending) (w' : World) : Prop :=
  ∃ (B : Nat) (A : Option Addr) (n c : Nat) (A' : Option Addr) (n' c' : Nat), w.heap.size ≤ B ∧ B ≤ w'.heap.size ∧ e = .returned (.tuple #[.agg #[.int .i64 o.t, .int .i64 o.q, .int .i64 o.v, .slice A n c, .slice A' n' c'], .bool o.f]) ∧ ResP w' w.heap.size B (.slice A n c) o.cs ∧ ResO w' B (.slice A' n' c') o.os ∧ Below w.heap.size w w'

set_option maxRecDepth 100000 in
set_option maxHeartbeats 1000000 in
theorem canWrite_is {s l c sh : Int} {zs : List Int} {x ct cq v : Int} {cs : List (Int × Int)} {b : Bool} (hW : wrtB s l c sh zs x ct cq v cs = b) (A : Option Addr) (n cap : Nat) (L : Option Addr) (m mc : Nat) (w : World) (hm : n ≤ maxLen) (hr : Row w w.heap.size A n zs) (hn : m ≤ 4194304) (h : Pairs w w.heap.size L m cs) :
    Calls Tryz.prog 236 #[.agg #[.int .i64 ct, .int .i64 cq, .int .i64 v, .slice L m mc], .agg #[.int .i64 s, .int .i64 l, .int .i64 c, .int .i64 sh, .slice A n cap], .int .i64 x] w fun e w' => e = .returned (.bool b) ∧ Below w.heap.size w w' := by
  have D := (Box.new w 199 #[.int .i64 ct, .int .i64 cq, .int .i64 v, .slice L m mc]).alloc (.cells #[.int .i64 s, .int .i64 l, .int .i64 c, .int .i64 sh, .slice A n cap] 26)
  have G := Box.new (w.alloc (.cells #[.int .i64 ct, .int .i64 cq, .int .i64 v, .slice L m mc] 199)) 26 #[.int .i64 s, .int .i64 l, .int .i64 c, .int .i64 sh, .slice A n cap]
  have E := bel_trans (bel_alloc w (.cells #[.int .i64 ct, .int .i64 cq, .int .i64 v, .slice L m mc] 199)) (bel_alloc _ (.cells #[.int .i64 s, .int .i64 l, .int .i64 c, .int .i64 sh, .slice A n cap] 26))
  simp only [World.size_alloc] at G
  have HR := Lib.hid ((hr.below E (Nat.le_refl _)).more E.size)
  have HP := Lib.hid (h.later E)
  have HM := Lib.hid hm
  have HW := Lib.hid hW
  clear hr hm h hW
  rcases zero_cases ct cq with ⟨rfl, rfl⟩ | ⟨hcase, hnz⟩
  · have HB : Hid (b = false) := Lib.hid (by rw [← HW.out]; exact wrt_zero _ _ _ _ _ _ _ _)
    go_enter Tryz.func236, Tryz.ntmps236
    go_wp2
    go_ret
    exact ⟨by rw [HB.out]; rfl, E⟩
  · have HPB : Hid (proB s l c sh zs x ct cq v cs = b) := Lib.hid (by rw [← HW.out]; unfold wrtB; simp [hnz])
    clear hnz
    rcases hcase with h1 | ⟨h1, h2⟩
    all_goals
      go_enter Tryz.func236, Tryz.ntmps236
      go_wp2_with fail
      generalize ((w.alloc _).alloc _ : World) = w0 at D G E HR HP ⊢
      refine (provenR_is HPB.out A n cap L m mc w0 HM.out HR.out hn HP.out).mono ?_
      rintro e w1 ⟨rfl, hb1⟩
      have E1 := bel_trans E hb1
      go_wp2
      go_ret
      exact ⟨rfl, E1⟩

end Go.Proofs.YtjdepjpjjgkmbaaGreat

/- Written: what the program answers: its contract; and the model's. -/
namespace Go.Proofs.YtjdepjpjjgkmbaaGreat
open Go.RowKit

theorem regOkB_is {s l c sh : Int} {zs : List Int} {x rt rq rv : Int} {ps : List (Int × Int)} {os : List Opn} {b : Bool} (hB : regB s l c sh zs x rt rq rv ps os = b) (A : Option Addr) (n cap : Nat) (P : Option Addr) (p pc : Nat) (Q : Option Addr) (q qc : Nat) (w : World) (hm : n ≤ maxLen) (hr : Row w w.heap.size A n zs) (hp : p ≤ 4194304) (hq : q ≤ 4194304) (h1 : Pairs w w.heap.size P p ps) (h2 : Quads w w.heap.size Q q os) :
    Calls Tryz.prog 155 #[.agg #[.int .i64 s, .int .i64 l, .int .i64 c, .int .i64 sh, .slice A n cap], .int .i64 x, .agg #[.int .i64 rt, .int .i64 rq, .int .i64 rv, .slice P p pc, .slice Q q qc]] w fun e w' => e = .returned (.bool b) ∧ Below w.heap.size w w' := hB ▸ regOk_is s l c sh A n cap zs x rt rq rv P p pc Q q qc ps os w hm hr hp hq h1 h2
/-- A shelf that reg answered is laid into the variable of the answer. -/
theorem wrr_put {w wc w' : World} {o : Out} {B R : Nat} {A : Option Addr} {n c : Nat} {A' : Option Addr} {n' c' : Nat} (E : Below w.heap.size w wc) (hR0 : w.heap.size ≤ R) (hR : R < wc.heap.size) (hB : wc.heap.size ≤ B) (hB' : B ≤ w'.heap.size) (h1 : ResP w' wc.heap.size B (.slice A n c) o.cs) (h2 : ResO w' B (.slice A' n' c') o.os) (hb : Below wc.heap.size wc w') (x0 x1 x2 x3 x4 : Value) :
    WrR w o (.returned (.tuple #[.agg #[.int .i64 o.t, .int .i64 o.q, .int .i64 o.v, .slice A n c, .slice A' n' c'], .bool o.f])) (((((w'.setCell ⟨R, 0, none⟩ x0).setCell ⟨R, 1, none⟩ x1).setCell ⟨R, 2, none⟩ x2).setCell ⟨R, 3, none⟩ x3).setCell ⟨R, 4, none⟩ x4) :=
  ⟨B, A, n, c, A', n', c', Nat.le_trans E.size hB, by simp only [size_set]; exact hB', rfl, (h1.far5 hR x0 x1 x2 x3 x4).wide E.size (Nat.le_refl _), h2.far5 (by omega) x0 x1 x2 x3 x4, bel_five (bel_trans E hb) hR0 x0 x1 x2 x3 x4⟩

/-- What Written keeps: the group, the variable of the answer, the board, what is next. -/
structure WB (w wr : World) (a b : Nat) (s l c sh : Int) (A : Option Addr) (n cap : Nat) (y n4 : Array Value) : Prop where
  bel : Below w.heap.size w wr
  G : Box wr w.heap.size 26 #[.int .i64 s, .int .i64 l, .int .i64 c, .int .i64 sh, .slice A n cap]
  X : Box wr (w.heap.size + 1 + 1 + 1) 80 #[.int .i64 0, .int .i64 0, .int .i64 0, .slice none 0 0, .slice none 0 0]
  Y : Box wr a 201 y
  N : Box wr b 199 n4
  ha : w.heap.size + 1 + 1 + 1 < a
  hab : a < b
theorem WB.later {w wr w' : World} {a b : Nat} {s l c sh : Int} {A : Option Addr} {n cap : Nat} {y n4 : Array Value} (h : WB w wr a b s l c sh A n cap y n4) (hb : Below wr.heap.size wr w') : WB w w' a b s l c sh A n cap y n4 :=
  ⟨bel_trans h.bel hb, h.G.later hb h.G.lt, h.X.later hb h.X.lt, h.Y.later hb h.Y.lt, h.N.later hb h.N.lt, h.ha, h.hab⟩

set_option maxRecDepth 100000 in
set_option maxHeartbeats 4000000 in
theorem written_is (s l c sh : Int) (A : Option Addr) (n cap : Nat) (zs : List Int) (x rt rq rv : Int) (P : Option Addr) (p pc : Nat) (Q : Option Addr) (q qc : Nat) (ct cq v : Int) (L : Option Addr) (m mc : Nat) (ps : List (Int × Int)) (os : List Opn) (cs : List (Int × Int)) (w : World) (hm : n ≤ maxLen) (hr : Row w w.heap.size A n zs) (hp : p ≤ 2000000) (hq : q ≤ 2000000) (h1 : Slc w (.slice P p pc) ps) (h2 : SlcQ w (.slice Q q qc) os) (hn : m ≤ 4194304) (h3 : Pairs w w.heap.size L m cs) :
    Calls Tryz.prog 218 #[.agg #[.int .i64 s, .int .i64 l, .int .i64 c, .int .i64 sh, .slice A n cap], .int .i64 x, .agg #[.int .i64 rt, .int .i64 rq, .int .i64 rv, .slice P p pc, .slice Q q qc], .agg #[.int .i64 ct, .int .i64 cq], .int .i64 v, .slice L m mc] w (WrR w (outW s l c sh zs x rt rq rv ps os ct cq v cs)) := by
  have G := (((Box.new w 26 #[.int .i64 s, .int .i64 l, .int .i64 c, .int .i64 sh, .slice A n cap]).alloc (.cells #[.int .i64 rt, .int .i64 rq, .int .i64 rv, .slice P p pc, .slice Q q qc] 80)).alloc (.cells #[.int .i64 ct, .int .i64 cq] 39)).alloc (.cells #[.int .i64 0, .int .i64 0, .int .i64 0, .slice none 0 0, .slice none 0 0] 80)
  have D := ((Box.new (w.alloc (.cells #[.int .i64 s, .int .i64 l, .int .i64 c, .int .i64 sh, .slice A n cap] 26)) 80 #[.int .i64 rt, .int .i64 rq, .int .i64 rv, .slice P p pc, .slice Q q qc]).alloc (.cells #[.int .i64 ct, .int .i64 cq] 39)).alloc (.cells #[.int .i64 0, .int .i64 0, .int .i64 0, .slice none 0 0, .slice none 0 0] 80)
  have T := (Box.new ((w.alloc (.cells #[.int .i64 s, .int .i64 l, .int .i64 c, .int .i64 sh, .slice A n cap] 26)).alloc (.cells #[.int .i64 rt, .int .i64 rq, .int .i64 rv, .slice P p pc, .slice Q q qc] 80)) 39 #[.int .i64 ct, .int .i64 cq]).alloc (.cells #[.int .i64 0, .int .i64 0, .int .i64 0, .slice none 0 0, .slice none 0 0] 80)
  have X := Box.new (((w.alloc (.cells #[.int .i64 s, .int .i64 l, .int .i64 c, .int .i64 sh, .slice A n cap] 26)).alloc (.cells #[.int .i64 rt, .int .i64 rq, .int .i64 rv, .slice P p pc, .slice Q q qc] 80)).alloc (.cells #[.int .i64 ct, .int .i64 cq] 39)) 80 #[.int .i64 0, .int .i64 0, .int .i64 0, .slice none 0 0, .slice none 0 0]
  have E := bel_trans (bel_trans (bel_trans (bel_alloc w (.cells #[.int .i64 s, .int .i64 l, .int .i64 c, .int .i64 sh, .slice A n cap] 26)) (bel_alloc _ (.cells #[.int .i64 rt, .int .i64 rq, .int .i64 rv, .slice P p pc, .slice Q q qc] 80))) (bel_alloc _ (.cells #[.int .i64 ct, .int .i64 cq] 39))) (bel_alloc _ (.cells #[.int .i64 0, .int .i64 0, .int .i64 0, .slice none 0 0, .slice none 0 0] 80))
  simp only [World.size_alloc] at D T X
  have HLP : Hid (ps.length = p) := Lib.hid (slc_pairs h1).1
  have HLQ : Hid (os.length = q) := Lib.hid (slcQ_quads h2).1
  have HR := Lib.hid hr
  have HM := Lib.hid hm
  have H1 := Lib.hid h1
  have H2 := Lib.hid h2
  have H3 := Lib.hid h3
  clear hr hm h1 h2 h3
  obtain ⟨O, hO⟩ : ∃ O, outW s l c sh zs x rt rq rv ps os ct cq v cs = O := ⟨_, rfl⟩
  rw [hO]
  go_enter Tryz.func218, Tryz.ntmps218
  go_wp2_with fail
  generalize ((((w.alloc _).alloc _).alloc _).alloc _ : World) = w0 at G D T X E ⊢
  rcases hrg : regB s l c sh zs x rt rq rv ps os with _ | _
  · have HO : Hid (O = ⟨0, 0, 0, [], [], false⟩) := Lib.hid (by rw [← hO]; unfold outW; rw [if_pos hrg])
    have HRG := Lib.hid hrg
    clear hrg hO
    refine (regOkB_is HRG.out A n cap P p pc Q q qc w0 HM.out ((HR.out.below E (Nat.le_refl _)).more E.size) (by omega) (by omega) (slc_pairs (H1.out.later E)) (slcQ_quads (H2.out.later E))).mono ?_
    rintro e w1 ⟨rfl, hb1⟩
    have E1 := bel_trans E hb1
    have X1 := X.later hb1 X.lt
    have hX := X.lt
    have hb1s := hb1.size
    have HP : Hid (∀ x0 x1 x2 x3 x4 : Value, WrR w O (.returned (.tuple #[.agg #[.int .i64 0, .int .i64 0, .int .i64 0, .slice none 0 0, .slice none 0 0], .bool false])) (((((w1.setCell ⟨w.heap.size + 1 + 1 + 1, 0, none⟩ x0).setCell ⟨w.heap.size + 1 + 1 + 1, 1, none⟩ x1).setCell ⟨w.heap.size + 1 + 1 + 1, 2, none⟩ x2).setCell ⟨w.heap.size + 1 + 1 + 1, 3, none⟩ x3).setCell ⟨w.heap.size + 1 + 1 + 1, 4, none⟩ x4)) := Lib.hid fun x0 x1 x2 x3 x4 => by
      rw [HO.out]
      exact ⟨w.heap.size, none, 0, 0, none, 0, 0, Nat.le_refl _, by simp only [size_set]; omega, rfl, .inl ⟨rfl, rfl⟩, .inl ⟨rfl, rfl⟩, bel_five E1 (by omega) x0 x1 x2 x3 x4⟩
    obtain ⟨x0, x1, x2, x3, x4⟩ := X1.five
    have fx := X1.frozen
    clear G D T X X1 E E1 hb1
    go_wp2
    exact bodyPost_ret (v := .tuple #[.agg #[.int .i64 0, .int .i64 0, .int .i64 0, .slice none 0 0, .slice none 0 0], .bool false]) (by simp [results, Tryz.results218, go_sem, x0, x1, x2, x3, x4]) rfl (HP.out _ _ _ _ _)
  have HRG := Lib.hid hrg
  refine (regOkB_is HRG.out A n cap P p pc Q q qc w0 HM.out ((HR.out.below E (Nat.le_refl _)).more E.size) (by omega) (by omega) (slc_pairs (H1.out.later E)) (slcQ_quads (H2.out.later E))).mono ?_
  rintro e w1 ⟨rfl, hb1⟩
  have D1 := D.later hb1 D.lt
  obtain ⟨d0, d1, d2, d3, d4⟩ := D1.five
  go_wp2_with fail
  refine (boardOf_is rt rq rv P p pc Q q qc w1).mono ?_
  rintro e w2 ⟨rfl, hb2⟩
  have hb12 := bel_trans hb1 hb2
  have hbA := bel_alloc w2 (.cells #[.int .i64 rt, .int .i64 rq, .int .i64 rv, .slice P p pc, .slice Q q qc] 201)
  have hbB := bel_alloc (w2.alloc (.cells #[.int .i64 rt, .int .i64 rq, .int .i64 rv, .slice P p pc, .slice Q q qc] 201)) (.cells #[.int .i64 ct, .int .i64 cq, .int .i64 v, .slice L m mc] 199)
  have hbAB := bel_trans hbA hbB
  have F := bel_trans hb12 hbAB
  have hX2 := (X.later hb12 X.lt).lt
  have T2 := T.later hb12 T.lt
  have hT2 := T2.lt
  obtain ⟨t0, t1⟩ := T2.two
  have G2 := G.later hb12 G.lt
  have hG2 := G2.lt
  obtain ⟨e0, e1, e2, e3, e4⟩ := G2.five
  have K : WB w ((w2.alloc (.cells #[.int .i64 rt, .int .i64 rq, .int .i64 rv, .slice P p pc, .slice Q q qc] 201)).alloc (.cells #[.int .i64 ct, .int .i64 cq, .int .i64 v, .slice L m mc] 199)) w2.heap.size (w2.heap.size + 1) s l c sh A n cap #[.int .i64 rt, .int .i64 rq, .int .i64 rv, .slice P p pc, .slice Q q qc] #[.int .i64 ct, .int .i64 cq, .int .i64 v, .slice L m mc] := by
    refine ⟨bel_trans E F, G.later F G.lt, X.later F X.lt, (Box.new w2 _ _).alloc _, ?_, hX2, by omega⟩
    have := Box.new (w2.alloc (.cells #[.int .i64 rt, .int .i64 rq, .int .i64 rv, .slice P p pc, .slice Q q qc] 201)) 199 #[.int .i64 ct, .int .i64 cq, .int .i64 v, .slice L m mc]
    simp only [World.size_alloc] at this
    exact this
  clear G D T X E hb1 hb2 hb12 hbA hbB hbAB F D1 d0 d1 d2 d3 d4 T2 G2
  go_wp2_with fail
  generalize ((w2.alloc _).alloc _ : World) = w3 at K ⊢
  generalize w2.heap.size = a at K hX2 hT2 hG2 ⊢
  clear t0 t1 e0 e1 e2 e3 e4 hT2 hG2
  rcases hwr : wrtB s l c sh zs x ct cq v cs with _ | _
  · have HO : Hid (O = ⟨rt, rq, rv, ps, os, false⟩) := Lib.hid (by rw [← hO]; unfold outW; rw [if_neg (by rw [hrg]; simp), if_pos hwr])
    have HWR := Lib.hid hwr
    clear hwr hrg hO
    refine (canWrite_is HWR.out A n cap L m mc w3 HM.out ((HR.out.below K.bel (Nat.le_refl _)).more K.bel.size) hn (H3.out.later K.bel)).mono ?_
    rintro e w4 ⟨rfl, hb4⟩
    replace K := K.later hb4
    clear hb4
    obtain ⟨y0, y1, y2, y3, y4⟩ := K.Y.five
    have hX4 := K.X.lt
    go_wp2_with fail
    refine (reg_is rt rq rv P p pc Q q qc ps os w4 (by rw [HLP.out]; omega) (by rw [HLQ.out]; omega) (H1.out.later K.bel) (H2.out.later K.bel)).mono ?_
    rintro e w5 ⟨B, u, u', hB, hB', rfl, hR1, hR2, hb5⟩
    obtain ⟨A5, c5, rfl, -, -, -, -⟩ := hR1.form
    obtain ⟨A6, c6, rfl, -, -, -, -⟩ := hR2.form
    have X5 := K.X.later hb5 K.X.lt
    obtain ⟨x0, x1, x2, x3, x4⟩ := X5.five
    have fx := X5.frozen
    have HP := Lib.hid (wrr_put (o := ⟨rt, rq, rv, ps, os, false⟩) (R := w.heap.size + 1 + 1 + 1) K.bel (by omega) hX4 hB hB' hR1 hR2 hb5)
    rw [← HO.out] at HP
    clear hR1 hR2 K y0 y1 y2 y3 y4 X5
    go_wp2
    exact bodyPost_ret (v := .tuple #[.agg #[.int .i64 rt, .int .i64 rq, .int .i64 rv, .slice A5 ps.length c5, .slice A6 os.length c6], .bool false]) (by simp [results, Tryz.results218, go_sem, x0, x1, x2, x3, x4]) rfl (by have := HP.out; rw [HO.out] at this ⊢; exact this _ _ _ _ _)
  have HWR := Lib.hid hwr
  refine (canWrite_is HWR.out A n cap L m mc w3 HM.out ((HR.out.below K.bel (Nat.le_refl _)).more K.bel.size) hn (H3.out.later K.bel)).mono ?_
  rintro e w4 ⟨rfl, hb4⟩
  replace K := K.later hb4
  clear hb4
  obtain ⟨y0, y1, y2, y3, y4⟩ := K.Y.five
  obtain ⟨n0, n1, n2, n3⟩ := K.N.four
  go_wp2_with fail
  refine (newer_any ct cq rt rq w4).mono ?_
  rintro e w5 ⟨rfl, hb5⟩
  replace K := K.later hb5
  clear hb5 y0 y1 y2 y3 y4 n0 n1 n2 n3
  rcases hcm : cmpN ct cq rt rq == 1 with _ | _
  · have HO : Hid (O = ⟨rt, rq, rv, ps, os, true⟩) := Lib.hid (by rw [← hO]; unfold outW; rw [if_neg (by rw [hrg]; simp), if_neg (by rw [hwr]; simp), if_neg (by simpa using hcm)])
    clear hwr hrg hO
    obtain ⟨y0, y1, y2, y3, y4⟩ := K.Y.five
    have hX4 := K.X.lt
    go_wp2_with fail
    refine (reg_is rt rq rv P p pc Q q qc ps os w5 (by rw [HLP.out]; omega) (by rw [HLQ.out]; omega) (H1.out.later K.bel) (H2.out.later K.bel)).mono ?_
    rintro e w6 ⟨B, u, u', hB, hB', rfl, hR1, hR2, hb5⟩
    obtain ⟨A5, c5, rfl, -, -, -, -⟩ := hR1.form
    obtain ⟨A6, c6, rfl, -, -, -, -⟩ := hR2.form
    have X5 := K.X.later hb5 K.X.lt
    obtain ⟨x0, x1, x2, x3, x4⟩ := X5.five
    have fx := X5.frozen
    have HP := Lib.hid (wrr_put (o := ⟨rt, rq, rv, ps, os, true⟩) (R := w.heap.size + 1 + 1 + 1) K.bel (by omega) hX4 hB hB' hR1 hR2 hb5)
    rw [← HO.out] at HP
    clear hR1 hR2 K y0 y1 y2 y3 y4 X5
    go_wp2
    exact bodyPost_ret (v := .tuple #[.agg #[.int .i64 rt, .int .i64 rq, .int .i64 rv, .slice A5 ps.length c5, .slice A6 os.length c6], .bool true]) (by simp [results, Tryz.results218, go_sem, x0, x1, x2, x3, x4]) rfl (by have := HP.out; rw [HO.out] at this ⊢; exact this _ _ _ _ _)
  · have hz := (wrt_parts hwr).2.2.1
    have HLS : Hid (lefS s l c sh zs x ct cq v cs = goodP (rB s l c sh zs 1 x ct cq v) cs) := Lib.hid (by unfold lefS; rw [if_neg hz])
    have HO : Hid (O = ⟨ct, cq, v, goodP (rB s l c sh zs 1 x ct cq v) cs, os, true⟩) := Lib.hid (by rw [← hO]; unfold outW; rw [if_neg (by rw [hrg]; simp), if_neg (by rw [hwr]; simp), if_pos (by simpa using hcm)])
    clear hwr hrg hO hz
    obtain ⟨n0, n1, n2, n3⟩ := K.N.four
    obtain ⟨g0, g1, g2, g3, g4⟩ := K.G.five
    go_wp2_with fail
    refine (leftSeals_is s l c sh A n cap zs x ct cq v L m mc cs w5 HM.out ((HR.out.below K.bel (Nat.le_refl _)).more K.bel.size) hn (H3.out.later K.bel)).mono ?_
    rintro e w6 ⟨u, rfl, hOw⟩
    rw [HLS.out] at hOw
    obtain ⟨J, hJ⟩ : ∃ J, goodP (rB s l c sh zs 1 x ct cq v) cs = J := ⟨_, rfl⟩
    rw [hJ] at hOw HO
    have hJl : J.length ≤ 4194304 := by
      rw [← hJ]
      have := goodP_le (rB s l c sh zs 1 x ct cq v) cs
      rw [H3.out.1] at this
      omega
    obtain ⟨Au, nu, cu, rfl⟩ := slc_form hOw.slc
    have K6 := K.later hOw.2
    have hs5 := K.N.lt
    have hRs := hOw.res (lo := w5.heap.size) (Nat.le_refl _)
    clear K hJ n0 n1 n2 n3 g0 g1 g2 g3 g4
    obtain ⟨n0, n1, n2, n3⟩ := K6.N.four
    obtain ⟨y0, y1, y2, y3, y4⟩ := K6.Y.five
    have fn := K6.N.frozen
    have fy := K6.Y.frozen
    have hab := K6.hab
    have ha := K6.ha
    have hNl := K6.N.lt
    have hX6 := K6.X.lt
    -- the board, behind what is written on it
    have Y7 := Lib.hid ((((K6.Y.far (p := ⟨a + 1, 3, none⟩) (by show a + 1 ≠ a; omega) (.slice Au nu cu)).set 0 (.int .i64 ct)).set 1 (.int .i64 cq)).set 2 (.int .i64 v) |>.set 3 (.slice Au nu cu))
    have X7 := Lib.hid (((((K6.X.far (p := ⟨a + 1, 3, none⟩) (by show a + 1 ≠ _; omega) (.slice Au nu cu)).far (p := ⟨a, 0, none⟩) (by show a ≠ _; omega) (.int .i64 ct)).far (p := ⟨a, 1, none⟩) (by show a ≠ _; omega) (.int .i64 cq)).far (p := ⟨a, 2, none⟩) (by show a ≠ _; omega) (.int .i64 v)).far (p := ⟨a, 3, none⟩) (by show a ≠ _; omega) (.slice Au nu cu))
    have E7 := Lib.hid (((((K6.bel.setCell (p := ⟨a + 1, 3, none⟩) (by show _ ≤ a + 1; omega) (.slice Au nu cu)).setCell (p := ⟨a, 0, none⟩) (by show _ ≤ a; omega) (.int .i64 ct)).setCell (p := ⟨a, 1, none⟩) (by show _ ≤ a; omega) (.int .i64 cq)).setCell (p := ⟨a, 2, none⟩) (by show _ ≤ a; omega) (.int .i64 v)).setCell (p := ⟨a, 3, none⟩) (by show _ ≤ a; omega) (.slice Au nu cu))
    have R7 := Lib.hid (((((hRs.far (b := a + 1) (by omega) 3 (.slice Au nu cu)).far (b := a) (by omega) 0 (.int .i64 ct)).far (b := a) (by omega) 1 (.int .i64 cq)).far (b := a) (by omega) 2 (.int .i64 v)).far (b := a) (by omega) 3 (.slice Au nu cu))
    clear K6 hRs hOw
    go_upto_region 10 with fail
    generalize (((((w6.setCell _ _).setCell _ _).setCell _ _).setCell _ _).setCell _ _ : World) = w7 at Y7 X7 E7 R7 ⊢
    have Y8 : Box w7 a 201 #[.int .i64 ct, .int .i64 cq, .int .i64 v, .slice Au nu cu, .slice Q q qc] := Y7.out
    have X8 := X7.out
    clear y0 y1 y2 y3 y4 n0 n1 n2 n3 fn fy Y7 X7
    obtain ⟨y0, y1, y2, y3, y4⟩ := Y8.five
    have hX8 := X8.lt
    go_wp2_with fail
    refine (reg_is ct cq v Au nu cu Q q qc J os w7 hJl (by rw [HLQ.out]; omega) R7.out.slc (H2.out.later E7.out)).mono ?_
    rintro e w8 ⟨B, u, u', hB, hB', rfl, hR1, hR2, hb5⟩
    obtain ⟨A5, c5, rfl, -, -, -, -⟩ := hR1.form
    obtain ⟨A6, c6, rfl, -, -, -, -⟩ := hR2.form
    have X5 := X8.later hb5 X8.lt
    obtain ⟨x0, x1, x2, x3, x4⟩ := X5.five
    have fx := X5.frozen
    have HP := Lib.hid (wrr_put (o := ⟨ct, cq, v, J, os, true⟩) (R := w.heap.size + 1 + 1 + 1) E7.out (by omega) hX8 hB hB' hR1 hR2 hb5)
    rw [← HO.out] at HP
    clear hR1 hR2 y0 y1 y2 y3 y4 X5 Y8 X8 E7 R7
    go_wp2
    exact bodyPost_ret (v := .tuple #[.agg #[.int .i64 ct, .int .i64 cq, .int .i64 v, .slice A5 J.length c5, .slice A6 os.length c6], .bool true]) (by simp [results, Tryz.results218, go_sem, x0, x1, x2, x3, x4]) rfl (by have := HP.out; rw [HO.out] at this ⊢; exact this _ _ _ _ _)

end Go.Proofs.YtjdepjpjjgkmbaaGreat

/- What is written again changes nothing; what is written is never older; mathematics alone; no conditions. -/
namespace Go.Proofs.YtjdepjpjjgkmbaaGreat
open Go.RowKit

theorem puts_mem7 {l : List (Int × Int)} {p : Int × Int} (h : p ∈ puts l) : p ∈ l := by
  have : p ∈ of p.1 (puts l) := mem_of.2 ⟨h, rfl⟩
  rw [puts_of] at this
  exact (mem_of.1 (List.mem_of_mem_take this)).1
theorem puts_ssrt7 {J : List (Int × Int)} (h : SSrt J) : puts J = J := by
  refine same_eq (puts_srt _).srt h.srt fun k => ?_
  rw [puts_of, List.take_of_length_le (ssrt_of h k)]
theorem goodP_twice (R : Int × Int → Bool) (ps : List (Int × Int)) : goodP R (goodP R ps) = goodP R ps := by
  have hf : (goodP R ps).filter R = goodP R ps := by
    rw [List.filter_eq_self]
    intro p hp
    have := puts_mem7 hp
    simpa using (List.mem_filter.1 this).2
  show puts ((goodP R ps).filter R) = goodP R ps
  rw [hf]
  exact puts_ssrt7 (puts_srt _)
theorem cer_left {s l c sh : Int} {zs : List Int} {ck ch ct cq cv : Int} {ps : List (Int × Int)} (h : cerB s l c sh zs ck ch ct cq cv ps = true) :
    cerB s l c sh zs ck ch ct cq cv (goodP (rB s l c sh zs ck ch ct cq cv) ps) = true := by
  simp only [cerB, Bool.and_eq_true, decide_eq_true_eq] at h ⊢
  obtain ⟨⟨hok, h20⟩, hq⟩ := h
  have hle := goodP_le (rB s l c sh zs ck ch ct cq cv) ps
  unfold cntN at hq ⊢
  rw [goodP_twice]
  exact ⟨⟨hok, by omega⟩, hq⟩
theorem cmp_self {a b : Int} (h : stB a b = true) : cmpN a b a b = 0 := by
  rcases cmp_cases a b a b with h' | ⟨_, _, h'⟩ | ⟨h', _⟩ | ⟨_, _, h'⟩
  · rw [cmpN_yes h h] at h'
    have g1 := sgn_bd a a
    have g2 := sgn_bd b b
    unfold orN at h'
    split at h' <;> omega
  · rcases h' with h' | h' <;> exact absurd rfl h'
  · exact h'
  · rcases h' with h' | h' <;> exact absurd rfl h'

/-- What is written is right, is newer or the same, and writes to itself. -/
theorem outW_again {s l c sh : Int} {zs : List Int} {x rt rq rv : Int} {ps : List (Int × Int)} {os : List Opn} {ct cq v : Int} {cs : List (Int × Int)} {O : Out} (hr : regB s l c sh zs x rt rq rv ps os = true) (hw : wrtB s l c sh zs x ct cq v cs = true) (hO : outW s l c sh zs x rt rq rv ps os ct cq v cs = O) :
    O.f = true ∧ O.os = os ∧ regB s l c sh zs x O.t O.q O.v O.cs O.os = true ∧ outW s l c sh zs x O.t O.q O.v O.cs O.os ct cq v cs = ⟨O.t, O.q, O.v, O.cs, O.os, true⟩ ∧ (cmpN O.t O.q rt rq = 0 ∨ cmpN O.t O.q rt rq = 1) ∧ (cmpN O.t O.q ct cq = 0 ∨ cmpN O.t O.q ct cq = 1) ∧ O.cs.length ≤ ps.length + cs.length := by
  have hrs := reg_stamp hr
  obtain ⟨hcs, _, hnz, hpro⟩ := wrt_parts hw
  unfold outW at hO
  rw [if_neg (by rw [hr]; simp), if_neg (by rw [hw]; simp)] at hO
  by_cases hc : cmpN ct cq rt rq = 1
  · rw [if_pos hc] at hO
    subst hO
    have hcer : cerB s l c sh zs 1 x ct cq v cs = true := by
      simp only [proB, Bool.and_eq_true, Bool.or_eq_true, decide_eq_true_eq] at hpro
      rcases hpro.2 with h | h
      · exact absurd h.1 hnz
      · exact h
    have hreg : regB s l c sh zs x ct cq v (goodP (rB s l c sh zs 1 x ct cq v) cs) os = true := by
      simp only [regB, Bool.and_eq_true] at hr ⊢
      refine ⟨?_, hr.2⟩
      simp only [lefB, Bool.and_eq_true, decide_eq_true_eq]
      refine ⟨?_, ?_⟩
      · simp only [proB, Bool.and_eq_true, Bool.or_eq_true] at hpro ⊢
        exact ⟨hpro.1, .inr (cer_left hcer)⟩
      · unfold lefS
        rw [if_neg hnz, goodP_twice]
    refine ⟨rfl, rfl, hreg, ?_, .inr hc, .inl (cmp_self hcs), ?_⟩
    · show outW s l c sh zs x ct cq v (goodP (rB s l c sh zs 1 x ct cq v) cs) os ct cq v cs = _
      unfold outW
      rw [if_neg (by rw [hreg]; simp), if_neg (by rw [hw]; simp), if_neg (by rw [cmp_self hcs]; omega)]
    · show (goodP (rB s l c sh zs 1 x ct cq v) cs).length ≤ _
      have := goodP_le (rB s l c sh zs 1 x ct cq v) cs
      omega
  · rw [if_neg hc] at hO
    subst hO
    refine ⟨rfl, rfl, hr, ?_, .inl (cmp_self hrs), ?_, by simp⟩
    · show outW s l c sh zs x rt rq rv ps os ct cq v cs = _
      unfold outW
      rw [if_neg (by rw [hr]; simp), if_neg (by rw [hw]; simp), if_neg hc]
    · show cmpN rt rq ct cq = 0 ∨ cmpN rt rq ct cq = 1
      rcases cmp_cases ct cq rt rq with h | ⟨_, h, _⟩ | ⟨h, h1, h2⟩ | ⟨h, _⟩
      · rw [cmpN_yes hcs hrs] at h
        have g1 := sgn_bd ct rt
        have g2 := sgn_bd cq rq
        unfold orN at h
        split at h <;> omega
      · exact .inr h
      · subst h1 h2
        exact .inl (cmp_self hrs)
      · exact absurd h hc
/-- What is answered is no longer than what came in. -/
theorem outW_len {s l c sh : Int} {zs : List Int} {x rt rq rv : Int} {ps : List (Int × Int)} {os : List Opn} {ct cq v : Int} {cs : List (Int × Int)} {O : Out} (hO : outW s l c sh zs x rt rq rv ps os ct cq v cs = O) : O.cs.length ≤ ps.length + cs.length ∧ O.os.length ≤ os.length := by
  subst hO
  unfold outW
  split
  · simp
  split
  · simp
  split
  · have := goodP_le (rB s l c sh zs 1 x ct cq v) cs
    show (goodP (rB s l c sh zs 1 x ct cq v) cs).length ≤ _ ∧ _
    exact ⟨by omega, Nat.le_refl _⟩
  · simp

end Go.Proofs.YtjdepjpjjgkmbaaGreat

/- RecOk of the program at every group and record; conditions: the lists' sizes are such as memory holds. -/
namespace Go.Proofs.YtjdepjpjjgkmbaaGreat
open Go Go.RowKit

/-- What a record asks by its kind; what RecOk answers. -/
def kndB (s l c sh : Int) (zs : List Int) (r2 r3 r4 r5 r6 r7 : Int) (ps : List (Int × Int)) : Bool :=
  if r2 = 1 then decide (ps = []) && opnB s l c sh zs (r4, r5, r6, r7)
  else if r2 = 2 then decide (r4 = 0) && !decide (r5 = 0 ∧ r6 = 0) && lefB s l c sh zs r3 r5 r6 r7 ps
  else false
def rokB (s l c sh : Int) (zs : List Int) (r1 r2 r3 r4 r5 r6 r7 : Int) (ps : List (Int × Int)) (r8 : Int) : Bool :=
  inB r1 1 400 && shfB s l c sh zs r3 && kndB s l c sh zs r2 r3 r4 r5 r6 r7 ps && (r8 == sumN r1 r2 r3 r4 r5 r6 r7 ps)

theorem sumOfB_is {r1 r2 r3 r4 r5 r6 r7 : Int} {ps : List (Int × Int)} {z : Int} (hz : sumN r1 r2 r3 r4 r5 r6 r7 ps = z) (L : Option Addr) (m mc : Nat) (r8 : Int) (w : World) (hm : m ≤ 4194304) (hr : Pairs w w.heap.size L m ps) :
    Calls Tryz.prog 142 #[.agg #[.int .i64 r1, .int .i64 r2, .int .i64 r3, .int .i64 r4, .int .i64 r5, .int .i64 r6, .int .i64 r7, .slice L m mc, .int .i64 r8]] w fun e w' => e = .returned (.int .i64 z) ∧ Below w.heap.size w w' := hz ▸ sumOf_is r1 r2 r3 r4 r5 r6 r7 L m mc r8 ps w hm hr

theorem withinR_is {x lo hi : Int} {b : Bool} (h : inB x lo hi = b) (w : World) : Calls Tryz.prog 143 #[.int .i64 x, .int .i64 lo, .int .i64 hi] w fun e w' => e = .returned (.bool b) ∧ w = w' := h ▸ within_any x lo hi w
theorem recOpen_is (r1 r2 r3 r4 r5 r6 r7 : Int) (L : Option Addr) (m mc : Nat) (r8 : Int) (w : World) :
    Calls Tryz.prog 190 #[.agg #[.int .i64 r1, .int .i64 r2, .int .i64 r3, .int .i64 r4, .int .i64 r5, .int .i64 r6, .int .i64 r7, .slice L m mc, .int .i64 r8]] w fun e w' => e = .returned (.agg #[.int .i64 r4, .int .i64 r5, .int .i64 r6, .int .i64 r7]) ∧ Below w.heap.size w w' := by
  go_enter Tryz.func190, Tryz.ntmps190
  go_wp2
  exact bodyPost_ret (v := .agg #[.int .i64 r4, .int .i64 r5, .int .i64 r6, .int .i64 r7]) (by simp [results, Tryz.results190, go_sem]) rfl ⟨rfl, by
    repeat (first | (with_reducible exact bel_trans (bel_alloc _ _) (bel_alloc _ _)) | refine Below.setCell ?_ (by simp; try omega) _)⟩
theorem recNewest_is (r1 r2 r3 r4 r5 r6 r7 : Int) (L : Option Addr) (m mc : Nat) (r8 : Int) (w : World) :
    Calls Tryz.prog 192 #[.agg #[.int .i64 r1, .int .i64 r2, .int .i64 r3, .int .i64 r4, .int .i64 r5, .int .i64 r6, .int .i64 r7, .slice L m mc, .int .i64 r8]] w fun e w' => e = .returned (.agg #[.int .i64 r5, .int .i64 r6, .int .i64 r7, .slice L m mc]) ∧ Below w.heap.size w w' := by
  go_enter Tryz.func192, Tryz.ntmps192
  go_wp2
  exact bodyPost_ret (v := .agg #[.int .i64 r5, .int .i64 r6, .int .i64 r7, .slice L m mc]) (by simp [results, Tryz.results192, go_sem]) rfl ⟨rfl, by
    repeat (first | (with_reducible exact bel_trans (bel_alloc _ _) (bel_alloc _ _)) | refine Below.setCell ?_ (by simp; try omega) _)⟩

set_option maxRecDepth 100000 in
set_option maxHeartbeats 4000000 in
theorem kindOk_is {s l c sh : Int} {zs : List Int} {r2 r3 r4 r5 r6 r7 : Int} {ps : List (Int × Int)} {b : Bool} (hb : kndB s l c sh zs r2 r3 r4 r5 r6 r7 ps = b) (A : Option Addr) (n cap : Nat) (r1 : Int) (L : Option Addr) (m mc : Nat) (r8 : Int) (w : World) (hn : n ≤ maxLen) (hr : Row w w.heap.size A n zs) (hm : m ≤ 4194304) (hp : Pairs w w.heap.size L m ps) :
    Calls Tryz.prog 145 #[.agg #[.int .i64 r1, .int .i64 r2, .int .i64 r3, .int .i64 r4, .int .i64 r5, .int .i64 r6, .int .i64 r7, .slice L m mc, .int .i64 r8], .agg #[.int .i64 s, .int .i64 l, .int .i64 c, .int .i64 sh, .slice A n cap]] w fun e w' => e = .returned (.bool b) ∧ Below w.heap.size w w' := by
  have D := (Box.new w 46 #[.int .i64 r1, .int .i64 r2, .int .i64 r3, .int .i64 r4, .int .i64 r5, .int .i64 r6, .int .i64 r7, .slice L m mc, .int .i64 r8]).alloc (.cells #[.int .i64 s, .int .i64 l, .int .i64 c, .int .i64 sh, .slice A n cap] 26)
  have G := Box.new (w.alloc (.cells #[.int .i64 r1, .int .i64 r2, .int .i64 r3, .int .i64 r4, .int .i64 r5, .int .i64 r6, .int .i64 r7, .slice L m mc, .int .i64 r8] 46)) 26 #[.int .i64 s, .int .i64 l, .int .i64 c, .int .i64 sh, .slice A n cap]
  have E := bel_trans (bel_alloc w (.cells #[.int .i64 r1, .int .i64 r2, .int .i64 r3, .int .i64 r4, .int .i64 r5, .int .i64 r6, .int .i64 r7, .slice L m mc, .int .i64 r8] 46)) (bel_alloc _ (.cells #[.int .i64 s, .int .i64 l, .int .i64 c, .int .i64 sh, .slice A n cap] 26))
  simp only [World.size_alloc] at G
  have HR := Lib.hid ((hr.below E (Nat.le_refl _)).more E.size)
  have HP := Lib.hid (hp.later E)
  have HL := Lib.hid hp.1
  have HM := Lib.hid hn
  have HB := Lib.hid hb
  clear hr hn hp hb
  go_enter Tryz.func145, Tryz.ntmps145
  go_upto_region 1 with fail
  generalize ((w.alloc _).alloc _ : World) = w0 at D G E HR HP ⊢
  have d1 := D.cell 1
  by_cases h1 : r2 = 1
  · subst h1
    go_upto_region 3 with fail
    clear d1
    obtain ⟨f0, f1, f2, f3, f4, f5, f6, f7, f8⟩ := nineAfter D
    obtain ⟨e0, e1, e2, e3, e4⟩ := fiveAfter G
    rcases Nat.eq_zero_or_pos m with hz | hz
    · have HO : Hid (opnB s l c sh zs (r4, r5, r6, r7) = b) := Lib.hid (by
        have : ps = [] := List.eq_nil_of_length_eq_zero (HL.out.trans hz)
        rw [← HB.out]; unfold kndB; simp [this])
      subst hz
      refine wp_region_after (by kernel_rfl) (by kernel_rfl) ?_
      repeat (first
        | go_big_quiet_step (first | (go_at_call 190; exact after_of (recOpen_is _ _ _ _ _ _ _ _ _ _ _ _)) | (go_at_call 191; exact after_of (isRightB_is HO.out A n cap _ HM.out (rowAfter HR.out _))))
        | quiet_step (first | (go_at_call 190; exact after_of (recOpen_is _ _ _ _ _ _ _ _ _ _ _ _)) | (go_at_call 191; exact after_of (isRightB_is HO.out A n cap _ HM.out (rowAfter HR.out _)))))
      refine wpQuiet_nil ?_
      intro pw
      go_wp2
      go_ret
      exact ⟨rfl, bel_trans E pw.bel⟩
    · have HV : Hid (b = false) := Lib.hid (by
        have : ps ≠ [] := fun e => by have := HL.out; rw [e] at this; simp at this; omega
        rw [← HB.out]; unfold kndB; simp [this])
      have hm0 : ((m : Int) == 0) = false := by simp; omega
      refine wp_region_after (by kernel_rfl) (by kernel_rfl) ?_
      repeat (first | go_big_quiet_step (fail) | quiet_step (fail))
      refine wpQuiet_nil ?_
      intro pw
      go_wp2
      go_ret
      exact ⟨by rw [HV.out]; rfl, bel_trans E pw.bel⟩
  by_cases h2 : r2 = 2
  · subst h2
    go_upto_region 5 with fail
    clear d1
    obtain ⟨f0, f1, f2, f3, f4, f5, f6, f7, f8⟩ := nineAfter D
    obtain ⟨e0, e1, e2, e3, e4⟩ := fiveAfter G
    by_cases h4 : r4 = 0
    · subst h4
      rcases zero_cases r5 r6 with ⟨rfl, rfl⟩ | ⟨hcase, hnz⟩
      · have HV : Hid (b = false) := Lib.hid (by rw [← HB.out]; unfold kndB; simp)
        refine wp_region_after (by kernel_rfl) (by kernel_rfl) ?_
        repeat (first | go_big_quiet_step (fail) | quiet_step (fail))
        refine wpQuiet_nil ?_
        intro pw
        go_wp2
        go_ret
        exact ⟨by rw [HV.out]; rfl, bel_trans E pw.bel⟩
      · have HF : Hid (lefB s l c sh zs r3 r5 r6 r7 ps = b) := Lib.hid (by rw [← HB.out]; unfold kndB; simp [hnz])
        clear hnz
        rcases hcase with hx | ⟨hx, hy⟩
        all_goals
          refine wp_region_after (by kernel_rfl) (by kernel_rfl) ?_
          repeat (first
            | go_big_quiet_step (first | (go_at_call 192; exact after_of (recNewest_is _ _ _ _ _ _ _ _ _ _ _ _)) | (go_at_call 193; exact after_of (isLeftB_is HF.out A n cap _ m mc _ HM.out (rowAfter HR.out _) hm (pairsAfter HP.out _))))
            | quiet_step (first | (go_at_call 192; exact after_of (recNewest_is _ _ _ _ _ _ _ _ _ _ _ _)) | (go_at_call 193; exact after_of (isLeftB_is HF.out A n cap _ m mc _ HM.out (rowAfter HR.out _) hm (pairsAfter HP.out _)))))
          refine wpQuiet_nil ?_
          intro pw
          go_wp2
          go_ret
          exact ⟨rfl, bel_trans E pw.bel⟩
    · have HV : Hid (b = false) := Lib.hid (by rw [← HB.out]; unfold kndB; simp [h4])
      have h4' : (r4 == 0) = false := by simpa using h4
      refine wp_region_after (by kernel_rfl) (by kernel_rfl) ?_
      repeat (first | go_big_quiet_step (fail) | quiet_step (fail))
      refine wpQuiet_nil ?_
      intro pw
      go_wp2
      go_ret
      exact ⟨by rw [HV.out]; rfl, bel_trans E pw.bel⟩
  · have HV : Hid (b = false) := Lib.hid (by rw [← HB.out]; unfold kndB; simp [h1, h2])
    have h1' : (r2 == 1) = false := by simpa using h1
    have h2' : (r2 == 2) = false := by simpa using h2
    go_wp2
    go_ret
    exact ⟨by rw [HV.out]; rfl, E⟩

set_option maxRecDepth 100000 in
set_option maxHeartbeats 4000000 in
theorem recOk_is {s l c sh : Int} {zs : List Int} {r1 r2 r3 r4 r5 r6 r7 r8 : Int} {ps : List (Int × Int)} {b : Bool} (hb : rokB s l c sh zs r1 r2 r3 r4 r5 r6 r7 ps r8 = b) (A : Option Addr) (n cap : Nat) (L : Option Addr) (m mc : Nat) (w : World) (hn : n ≤ maxLen) (hr : Row w w.heap.size A n zs) (hm : m ≤ 4194304) (hp : Pairs w w.heap.size L m ps) :
    Calls Tryz.prog 79 #[.agg #[.int .i64 s, .int .i64 l, .int .i64 c, .int .i64 sh, .slice A n cap], .agg #[.int .i64 r1, .int .i64 r2, .int .i64 r3, .int .i64 r4, .int .i64 r5, .int .i64 r6, .int .i64 r7, .slice L m mc, .int .i64 r8]] w fun e w' => e = .returned (.bool b) ∧ Below w.heap.size w w' := by
  have G := (Box.new w 26 #[.int .i64 s, .int .i64 l, .int .i64 c, .int .i64 sh, .slice A n cap]).alloc (.cells #[.int .i64 r1, .int .i64 r2, .int .i64 r3, .int .i64 r4, .int .i64 r5, .int .i64 r6, .int .i64 r7, .slice L m mc, .int .i64 r8] 46)
  have D := Box.new (w.alloc (.cells #[.int .i64 s, .int .i64 l, .int .i64 c, .int .i64 sh, .slice A n cap] 26)) 46 #[.int .i64 r1, .int .i64 r2, .int .i64 r3, .int .i64 r4, .int .i64 r5, .int .i64 r6, .int .i64 r7, .slice L m mc, .int .i64 r8]
  have E := bel_trans (bel_alloc w (.cells #[.int .i64 s, .int .i64 l, .int .i64 c, .int .i64 sh, .slice A n cap] 26)) (bel_alloc _ (.cells #[.int .i64 r1, .int .i64 r2, .int .i64 r3, .int .i64 r4, .int .i64 r5, .int .i64 r6, .int .i64 r7, .slice L m mc, .int .i64 r8] 46))
  simp only [World.size_alloc] at D
  have HR := Lib.hid ((hr.below E (Nat.le_refl _)).more E.size)
  have HP := Lib.hid (hp.later E)
  have HM := Lib.hid hn
  have HB := Lib.hid hb
  clear hr hn hp hb
  go_enter Tryz.func79, Tryz.ntmps79
  go_upto_region 1 with fail
  generalize ((w.alloc _).alloc _ : World) = w0 at D G E HR HP ⊢
  obtain ⟨f0, f1, f2, f3, f4, f5, f6, f7, f8⟩ := nineAfter D
  obtain ⟨e0, e1, e2, e3, e4⟩ := fiveAfter G
  rcases h1 : inB r1 1 400 with _ | _
  · have HV : Hid (b = false) := Lib.hid (by rw [← HB.out]; unfold rokB; simp [h1])
    have H1 := Lib.hid h1
    clear h1
    refine wp_region_after (by kernel_rfl) (by kernel_rfl) ?_
    repeat (first | go_big_quiet_step ((go_at_call 143; exact after_same (withinR_is H1.out _))) | quiet_step ((go_at_call 143; exact after_same (withinR_is H1.out _))))
    refine wpQuiet_nil ?_
    intro pw
    go_wp2
    go_ret
    exact ⟨by rw [HV.out]; rfl, bel_trans E pw.bel⟩
  rcases h2 : shfB s l c sh zs r3 with _ | _
  · have HV : Hid (b = false) := Lib.hid (by rw [← HB.out]; unfold rokB; simp [h2])
    have H1 := Lib.hid h1
    have H2 := Lib.hid h2
    clear h1 h2
    refine wp_region_after (by kernel_rfl) (by kernel_rfl) ?_
    repeat (first | go_big_quiet_step ((first | (go_at_call 143; exact after_same (withinR_is H1.out _)) | (go_at_call 144; exact after_of (isShelfB_is H2.out A n cap _ HM.out (rowAfter HR.out _))))) | quiet_step ((first | (go_at_call 143; exact after_same (withinR_is H1.out _)) | (go_at_call 144; exact after_of (isShelfB_is H2.out A n cap _ HM.out (rowAfter HR.out _))))))
    refine wpQuiet_nil ?_
    intro pw
    go_wp2
    go_ret
    exact ⟨by rw [HV.out]; rfl, bel_trans E pw.bel⟩
  rcases h3 : kndB s l c sh zs r2 r3 r4 r5 r6 r7 ps with _ | _
  · have HV : Hid (b = false) := Lib.hid (by rw [← HB.out]; unfold rokB; simp [h3])
    have H1 := Lib.hid h1
    have H2 := Lib.hid h2
    have H3 := Lib.hid h3
    clear h1 h2 h3
    refine wp_region_after (by kernel_rfl) (by kernel_rfl) ?_
    repeat (first | go_big_quiet_step ((first | (go_at_call 143; exact after_same (withinR_is H1.out _)) | (go_at_call 144; exact after_of (isShelfB_is H2.out A n cap _ HM.out (rowAfter HR.out _))) | (go_at_call 145; exact after_of (kindOk_is H3.out A n cap _ L m mc _ _ HM.out (rowAfter HR.out _) hm (pairsAfter HP.out _))))) | quiet_step ((first | (go_at_call 143; exact after_same (withinR_is H1.out _)) | (go_at_call 144; exact after_of (isShelfB_is H2.out A n cap _ HM.out (rowAfter HR.out _))) | (go_at_call 145; exact after_of (kindOk_is H3.out A n cap _ L m mc _ _ HM.out (rowAfter HR.out _) hm (pairsAfter HP.out _))))))
    refine wpQuiet_nil ?_
    intro pw
    go_wp2
    go_ret
    exact ⟨by rw [HV.out]; rfl, bel_trans E pw.bel⟩
  obtain ⟨z, h4⟩ : ∃ z, sumN r1 r2 r3 r4 r5 r6 r7 ps = z := ⟨_, rfl⟩
  have HV : Hid (b = (r8 == z)) := Lib.hid (by rw [← HB.out]; unfold rokB; simp [h1, h2, h3, h4])
  have H1 := Lib.hid h1
  have H2 := Lib.hid h2
  have H3 := Lib.hid h3
  have H4 := Lib.hid h4
  clear h1 h2 h3 h4
  refine wp_region_after (by kernel_rfl) (by kernel_rfl) ?_
  repeat (first | go_big_quiet_step ((first | (go_at_call 143; exact after_same (withinR_is H1.out _)) | (go_at_call 144; exact after_of (isShelfB_is H2.out A n cap _ HM.out (rowAfter HR.out _))) | (go_at_call 145; exact after_of (kindOk_is H3.out A n cap _ L m mc _ _ HM.out (rowAfter HR.out _) hm (pairsAfter HP.out _))) | (go_at_call 142; exact after_of (sumOfB_is H4.out L m mc _ _ hm (pairsAfter HP.out _))))) | quiet_step ((first | (go_at_call 143; exact after_same (withinR_is H1.out _)) | (go_at_call 144; exact after_of (isShelfB_is H2.out A n cap _ HM.out (rowAfter HR.out _))) | (go_at_call 145; exact after_of (kindOk_is H3.out A n cap _ L m mc _ _ HM.out (rowAfter HR.out _) hm (pairsAfter HP.out _))) | (go_at_call 142; exact after_of (sumOfB_is H4.out L m mc _ _ hm (pairsAfter HP.out _))))))
  refine wpQuiet_nil ?_
  intro pw
  go_wp2
  go_ret
  exact ⟨by rw [HV.out]; rfl, bel_trans E pw.bel⟩

end Go.Proofs.YtjdepjpjjgkmbaaGreat

/- RecOk of the model at every group and record; conditions: the lists' sizes are such as memory holds. -/
namespace Go.Proofs.YtjdepjpjjgkmbaaGreat
open Go Go.RowKit

theorem l1InR_is {x lo hi : Int} {b : Bool} (h : inB x lo hi = b) (w : World) : Calls Tryz.prog 174 #[.int .i64 x, .int .i64 lo, .int .i64 hi] w fun e w' => e = .returned (.bool b) ∧ w = w' := h ▸ l1In_any x lo hi w
theorem specOkR_is {s l c sh : Int} {zs : List Int} {b : Bool} (h : okB s l c sh zs = b) (A : Option Addr) (n cap : Nat) (w : World) (hm : n ≤ maxLen) (hr : Row w w.heap.size A n zs) :
    Calls Tryz.prog 133 #[.agg #[.int .i64 s, .int .i64 l, .int .i64 c, .int .i64 sh, .slice A n cap]] w fun e w' => e = .returned (.bool b) ∧ Below w.heap.size w w' := h ▸ specGroup_any s l c sh A n cap zs w hm hr
theorem specSumOfB_is {r1 r2 r3 r4 r5 r6 r7 : Int} {ps : List (Int × Int)} {z : Int} (hz : sumN r1 r2 r3 r4 r5 r6 r7 ps = z) (L : Option Addr) (m mc : Nat) (r8 : Int) (w : World) (hm : m ≤ 4194304) (hr : Pairs w w.heap.size L m ps) :
    Calls Tryz.prog 141 #[.agg #[.int .i64 r1, .int .i64 r2, .int .i64 r3, .int .i64 r4, .int .i64 r5, .int .i64 r6, .int .i64 r7, .slice L m mc, .int .i64 r8]] w fun e w' => e = .returned (.int .i64 z) ∧ Below w.heap.size w w' := hz ▸ specSumOf_is r1 r2 r3 r4 r5 r6 r7 L m mc r8 ps w hm hr
theorem l7ProvenB_is {s l c sh : Int} {zs : List Int} {x ct cq v : Int} {ps : List (Int × Int)} {b : Bool} (hb : lefB s l c sh zs x ct cq v ps = b) (A : Option Addr) (n cap : Nat) (P : Option Addr) (m pcap : Nat) (w : World) (hm : n ≤ maxLen) (hr : Row w w.heap.size A n zs) (hn : m ≤ 4194304) (h : Pairs w w.heap.size P m ps) :
    Calls Tryz.prog 181 #[.agg #[.int .i64 s, .int .i64 l, .int .i64 c, .int .i64 sh, .slice A n cap], .int .i64 x, .agg #[.int .i64 ct, .int .i64 cq], .int .i64 v, .slice P m pcap] w fun e w' => e = .returned (.bool b) ∧ Below w.heap.size w w' := hb ▸ l7Proven_is s l c sh A n cap zs x ct cq v P m pcap ps w hm hr hn h

set_option maxRecDepth 100000 in
set_option maxHeartbeats 4000000 in
theorem specRecOk_is {s l c sh : Int} {zs : List Int} {r1 r2 r3 r4 r5 r6 r7 r8 : Int} {ps : List (Int × Int)} {b : Bool} (hb : rokB s l c sh zs r1 r2 r3 r4 r5 r6 r7 ps r8 = b) (A : Option Addr) (n cap : Nat) (L : Option Addr) (m mc : Nat) (w : World) (hn : n ≤ maxLen) (hr : Row w w.heap.size A n zs) (hm : m ≤ 4194304) (hp : Pairs w w.heap.size L m ps) :
    Calls Tryz.prog 134 #[.agg #[.int .i64 s, .int .i64 l, .int .i64 c, .int .i64 sh, .slice A n cap], .agg #[.int .i64 r1, .int .i64 r2, .int .i64 r3, .int .i64 r4, .int .i64 r5, .int .i64 r6, .int .i64 r7, .slice L m mc, .int .i64 r8]] w fun e w' => e = .returned (.bool b) ∧ Below w.heap.size w w' := by
  have G := (Box.new w 26 #[.int .i64 s, .int .i64 l, .int .i64 c, .int .i64 sh, .slice A n cap]).alloc (.cells #[.int .i64 r1, .int .i64 r2, .int .i64 r3, .int .i64 r4, .int .i64 r5, .int .i64 r6, .int .i64 r7, .slice L m mc, .int .i64 r8] 46)
  have D := Box.new (w.alloc (.cells #[.int .i64 s, .int .i64 l, .int .i64 c, .int .i64 sh, .slice A n cap] 26)) 46 #[.int .i64 r1, .int .i64 r2, .int .i64 r3, .int .i64 r4, .int .i64 r5, .int .i64 r6, .int .i64 r7, .slice L m mc, .int .i64 r8]
  have E := bel_trans (bel_alloc w (.cells #[.int .i64 s, .int .i64 l, .int .i64 c, .int .i64 sh, .slice A n cap] 26)) (bel_alloc _ (.cells #[.int .i64 r1, .int .i64 r2, .int .i64 r3, .int .i64 r4, .int .i64 r5, .int .i64 r6, .int .i64 r7, .slice L m mc, .int .i64 r8] 46))
  simp only [World.size_alloc] at D
  have HR := Lib.hid ((hr.below E (Nat.le_refl _)).more E.size)
  have HP := Lib.hid (hp.later E)
  have HL := Lib.hid hp.1
  have HM := Lib.hid hn
  have HB := Lib.hid hb
  clear hr hn hp hb
  go_enter Tryz.func134, Tryz.ntmps134
  go_upto_region 1 with fail
  generalize ((w.alloc _).alloc _ : World) = w0 at D G E HR HP ⊢
  obtain ⟨f0, f1, f2, f3, f4, f5, f6, f7, f8⟩ := nineAfter D
  obtain ⟨e0, e1, e2, e3, e4⟩ := fiveAfter G
  rcases h1 : inB r1 1 400 with _ | _
  · have HV : Hid (b = false) := Lib.hid (by rw [← HB.out]; unfold rokB; simp [h1])
    have H1 := Lib.hid h1
    clear h1
    refine wp_region_after (by kernel_rfl) (by kernel_rfl) ?_
    repeat (first | go_big_quiet_step ((go_at_call 174; with_reducible exact after_same (l1InR_is H1.out _))) | quiet_step ((go_at_call 174; with_reducible exact after_same (l1InR_is H1.out _))))
    refine wpQuiet_nil ?_
    intro pw
    go_wp2
    go_ret
    exact ⟨by rw [HV.out]; rfl, bel_trans E pw.bel⟩
  rcases h2 : okB s l c sh zs with _ | _
  · have HV : Hid (b = false) := Lib.hid (by rw [← HB.out]; unfold rokB shfB; simp [h2])
    have H1 := Lib.hid h1
    have H2 := Lib.hid h2
    clear h1 h2
    refine wp_region_after (by kernel_rfl) (by kernel_rfl) ?_
    repeat (first | go_big_quiet_step ((first | (go_at_call 174; with_reducible exact after_same (l1InR_is H1.out _)) | (go_at_call 133; exact after_of (specOkR_is H2.out A n cap _ HM.out (rowAfter HR.out _))))) | quiet_step ((first | (go_at_call 174; with_reducible exact after_same (l1InR_is H1.out _)) | (go_at_call 133; exact after_of (specOkR_is H2.out A n cap _ HM.out (rowAfter HR.out _))))))
    refine wpQuiet_nil ?_
    intro pw
    go_wp2
    go_ret
    exact ⟨by rw [HV.out]; rfl, bel_trans E pw.bel⟩
  obtain ⟨hs1, hs2⟩ := okB_sh h2
  have hw : IntKind.i64.wrap (sh - 1) = sh - 1 := IntWalk.i64_in _ (by omega)
  rcases h3 : inB r3 0 (sh - 1) with _ | _
  · have HV : Hid (b = false) := Lib.hid (by rw [← HB.out]; unfold rokB shfB; simp [h3])
    have H1 := Lib.hid h1
    have H2 := Lib.hid h2
    have H3 := Lib.hid h3
    clear h1 h2 h3
    refine wp_region_after (by kernel_rfl) (by kernel_rfl) ?_
    repeat (first | go_big_quiet_step ((first | (go_at_call 174; with_reducible exact after_same (l1InR_is H1.out _)) | (go_at_call 133; exact after_of (specOkR_is H2.out A n cap _ HM.out (rowAfter HR.out _))) | (go_at_call 174; with_reducible exact after_same (l1InR_is H3.out _)))) | quiet_step ((first | (go_at_call 174; with_reducible exact after_same (l1InR_is H1.out _)) | (go_at_call 133; exact after_of (specOkR_is H2.out A n cap _ HM.out (rowAfter HR.out _))) | (go_at_call 174; with_reducible exact after_same (l1InR_is H3.out _)))))
    refine wpQuiet_nil ?_
    intro pw
    go_wp2
    go_ret
    exact ⟨by rw [HV.out]; rfl, bel_trans E pw.bel⟩
  obtain ⟨z, h4⟩ : ∃ z, sumN r1 r2 r3 r4 r5 r6 r7 ps = z := ⟨_, rfl⟩
  by_cases hz : r8 = z
  case neg =>
    have HV : Hid (b = false) := Lib.hid (by rw [← HB.out]; unfold rokB; simp [h4, hz])
    have hz1 : (r8 != z) = true := by simpa using hz
    have H1 := Lib.hid h1
    have H2 := Lib.hid h2
    have H3 := Lib.hid h3
    have H4 := Lib.hid h4
    clear h1 h2 h3 h4 hz
    refine wp_region_after (by kernel_rfl) (by kernel_rfl) ?_
    repeat (first | go_big_quiet_step ((first | (go_at_call 174; with_reducible exact after_same (l1InR_is H1.out _)) | (go_at_call 133; exact after_of (specOkR_is H2.out A n cap _ HM.out (rowAfter HR.out _))) | (go_at_call 174; with_reducible exact after_same (l1InR_is H3.out _)) | (go_at_call 141; exact after_of (specSumOfB_is H4.out L m mc _ _ hm (pairsAfter HP.out _))))) | quiet_step ((first | (go_at_call 174; with_reducible exact after_same (l1InR_is H1.out _)) | (go_at_call 133; exact after_of (specOkR_is H2.out A n cap _ HM.out (rowAfter HR.out _))) | (go_at_call 174; with_reducible exact after_same (l1InR_is H3.out _)) | (go_at_call 141; exact after_of (specSumOfB_is H4.out L m mc _ _ hm (pairsAfter HP.out _))))))
    refine wpQuiet_nil ?_
    intro pw
    go_wp2
    go_ret
    exact ⟨by rw [HV.out]; rfl, bel_trans E pw.bel⟩
  subst hz
  have HK : Hid (kndB s l c sh zs r2 r3 r4 r5 r6 r7 ps = b) := Lib.hid (by rw [← HB.out]; unfold rokB shfB; simp [h1, h2, h3, h4])
  have hz1 : (r8 != r8) = false := by simp
  have H1 := Lib.hid h1
  have H2 := Lib.hid h2
  have H3 := Lib.hid h3
  have H4 := Lib.hid h4
  clear h1 h2 h3 h4
  refine wp_region_after (by kernel_rfl) (by kernel_rfl) ?_
  repeat (first | go_big_quiet_step ((first | (go_at_call 174; with_reducible exact after_same (l1InR_is H1.out _)) | (go_at_call 133; exact after_of (specOkR_is H2.out A n cap _ HM.out (rowAfter HR.out _))) | (go_at_call 174; with_reducible exact after_same (l1InR_is H3.out _)) | (go_at_call 141; exact after_of (specSumOfB_is H4.out L m mc _ _ hm (pairsAfter HP.out _))))) | quiet_step ((first | (go_at_call 174; with_reducible exact after_same (l1InR_is H1.out _)) | (go_at_call 133; exact after_of (specOkR_is H2.out A n cap _ HM.out (rowAfter HR.out _))) | (go_at_call 174; with_reducible exact after_same (l1InR_is H3.out _)) | (go_at_call 141; exact after_of (specSumOfB_is H4.out L m mc _ _ hm (pairsAfter HP.out _))))))
  refine wpQuiet_nil ?_
  intro pw
  clear f0 f1 f2 f3 f4 f5 f6 f7 f8 e0 e1 e2 e3 e4 H1 H2 H3 H4
  have D := D.later pw.bel D.lt
  have G := G.later pw.bel G.lt
  have E := bel_trans E pw.bel
  have R0 := rowAfter HR.out pw
  have P0 := pairsAfter HP.out pw
  generalize pw.x = w1 at D G E R0 P0 ⊢
  have HR := Lib.hid R0
  have HP := Lib.hid P0
  clear R0 P0
  obtain ⟨d0, d1, d2, d3, d4, d5, d6, d7, d8⟩ := D.nine
  obtain ⟨g0, g1, g2, g3, g4⟩ := G.five
  by_cases h1 : r2 = 1
  · subst h1
    rcases ho : opnB s l c sh zs (r4, r5, r6, r7) with _ | _
    · have HV : Hid (b = false) := Lib.hid (by rw [← HK.out]; unfold kndB; simp [ho])
      have HO := Lib.hid ho
      clear ho
      go_wp2_with fail
      refine (l7OpenB_is HO.out A n cap w1 HM.out HR.out).mono ?_
      rintro e w2 ⟨rfl, hb⟩
      have E2 := bel_trans E hb
      go_wp2
      go_ret
      exact ⟨by rw [HV.out]; rfl, E2⟩
    · have HO := Lib.hid ho
      have HV : Hid (b = decide (ps = [])) := Lib.hid (by rw [← HK.out]; unfold kndB; simp [ho])
      clear ho
      go_wp2_with fail
      refine (l7OpenB_is HO.out A n cap w1 HM.out HR.out).mono ?_
      rintro e w2 ⟨rfl, hb⟩
      have E2 := bel_trans E hb
      have d7 := (D.later hb D.lt).cell 7
      rcases Nat.eq_zero_or_pos m with hz | hz
      · have HQ : Hid (b = true) := Lib.hid (by
          have : ps = [] := List.eq_nil_of_length_eq_zero (HL.out.trans hz)
          rw [HV.out]; simp [this])
        subst hz
        go_wp2
        go_ret
        exact ⟨by rw [HQ.out]; rfl, E2⟩
      · have HQ : Hid (b = false) := Lib.hid (by
          have : ps ≠ [] := fun e => by have := HL.out; rw [e] at this; simp at this; omega
          rw [HV.out]; simp [this])
        have hm0 : ((m : Int) == 0) = false := by simp; omega
        go_wp2
        go_ret
        exact ⟨by rw [HQ.out]; rfl, E2⟩
  by_cases h2 : r2 = 2
  · subst h2
    by_cases h4 : r4 = 0
    · subst h4
      rcases zero_cases r5 r6 with ⟨rfl, rfl⟩ | ⟨hcase, hnz⟩
      · have HV : Hid (b = false) := Lib.hid (by rw [← HK.out]; unfold kndB; simp)
        go_wp2_with fail
        refine (l4Zero_yes w1).mono ?_
        rintro e w2 ⟨rfl, hb⟩
        have E2 := bel_trans E hb
        go_wp2
        go_ret
        exact ⟨by rw [HV.out]; rfl, E2⟩
      · have HF : Hid (lefB s l c sh zs r3 r5 r6 r7 ps = b) := Lib.hid (by rw [← HK.out]; unfold kndB; simp [hnz])
        have HC := Lib.hid hcase
        clear hnz hcase
        go_wp2_with fail
        refine (l4Zero_no r5 r6 HC.out w1).mono ?_
        rintro e w2 ⟨rfl, hb⟩
        have E2 := bel_trans E hb
        have D2 := D.later hb D.lt
        have G2 := G.later hb G.lt
        have HR2 := Lib.hid ((HR.out.below hb (Nat.le_refl _)).more hb.size)
        have HP2 := Lib.hid (HP.out.later hb)
        clear d0 d1 d2 d3 d4 d5 d6 d7 d8 g0 g1 g2 g3 g4 hb D G E HR HP
        obtain ⟨d0, d1, d2, d3, d4, d5, d6, d7, d8⟩ := D2.nine
        obtain ⟨g0, g1, g2, g3, g4⟩ := G2.five
        go_wp2_with fail
        refine (l7ProvenB_is HF.out A n cap L m mc w2 HM.out HR2.out hm HP2.out).mono ?_
        rintro e w3 ⟨rfl, hb⟩
        have E3 := bel_trans E2 hb
        go_wp2
        go_ret
        exact ⟨rfl, E3⟩
    · have HV : Hid (b = false) := Lib.hid (by rw [← HK.out]; unfold kndB; simp [h4])
      have h4' : (r4 == 0) = false := by simpa using h4
      go_wp2
      go_ret
      exact ⟨by rw [HV.out]; rfl, E⟩
  · have HV : Hid (b = false) := Lib.hid (by rw [← HK.out]; unfold kndB; simp [h1, h2])
    have h1' : (r2 == 1) = false := by simpa using h1
    have h2' : (r2 == 2) = false := by simpa using h2
    go_wp2
    go_ret
    exact ⟨by rw [HV.out]; rfl, E⟩

end Go.Proofs.YtjdepjpjjgkmbaaGreat

/- RecOk as a law meets it: over copies of a group and a record as data; conditions: the sizes. -/
namespace Go.Proofs.YtjdepjpjjgkmbaaGreat
open Go Go.RowKit

/-- What RecOk answers. -/
def rokD (g : GrpD) (d : RecD) : Bool := rokB g.s g.l g.c g.sh g.zs d.r1 d.r2 d.r3 d.r4 d.r5 d.r6 d.r7 d.ps d.r8
end Go.Proofs.YtjdepjpjjgkmbaaGreat

/- What is replayed, as data: one record laid on its shelf, all of them, one after the other; how long it can get; no conditions. -/
namespace Go.Proofs.YtjdepjpjjgkmbaaGreat
open Go Go.RowKit

def zeroR : RegD := ⟨0, 0, 0, [], []⟩
/-- A shelf with a record done to it. -/
def ontoD (g : GrpD) (d : RecD) (r : RegD) : RegD :=
  if d.r2 = 1 then ⟨r.t, r.q, r.v, r.ps, withO r.os (d.r4, d.r5, d.r6, d.r7)⟩
  else
    let o := outW g.s g.l g.c g.sh g.zs d.r3 r.t r.q r.v r.ps r.os d.r5 d.r6 d.r7 d.ps
    ⟨o.t, o.q, o.v, o.cs, o.os⟩
/-- Is it right where it stands? -/
def isAt (g : GrpD) (ds : List RecD) (i : Nat) : Bool :=
  match ds[i]? with
  | some d => decide (d.r1 = (i : Int) + 1) && rokD g d
  | none => false
def regOf (rs : List RegD) (i : Nat) : RegD := rs.getD i zeroR
def stepR (g : GrpD) (rs : List RegD) (d : RecD) : List RegD := rs.set d.r3.toNat (ontoD g d (regOf rs d.r3.toNat))
def shelves (g : GrpD) (ds : List RecD) : List RegD := ds.foldl (stepR g) (List.replicate g.sh.toNat zeroR)
def okG (g : GrpD) : Bool := okB g.s g.l g.c g.sh g.zs
def allAt (g : GrpD) (ds : List RecD) : Bool := (List.range ds.length).all (isAt g ds)
/-- What Replayed answers. -/
def replD (g : GrpD) (ds : List RecD) : List RegD × Bool := if okG g && allAt g ds then (shelves g ds, true) else ([], false)

theorem shelves_snoc (g : GrpD) (ds : List RecD) {k : Nat} (h : k < ds.length) : shelves g (ds.take (k + 1)) = stepR g (shelves g (ds.take k)) ds[k] := by
  unfold shelves
  rw [List.take_succ_eq_append_getElem h, List.foldl_append, List.foldl_cons, List.foldl_nil]
theorem stepR_len (g : GrpD) (rs : List RegD) (d : RecD) : (stepR g rs d).length = rs.length := by simp [stepR]
theorem shelves_len (g : GrpD) (ds : List RecD) : (shelves g ds).length = g.sh.toNat := by
  have key : ∀ (ds : List RecD) (rs : List RegD), (ds.foldl (stepR g) rs).length = rs.length := by
    intro ds
    induction ds with
    | nil => intro rs; rfl
    | cons d ds ih => intro rs; rw [List.foldl_cons, ih, stepR_len]
  unfold shelves
  rw [key, List.length_replicate]
theorem isAt_lt {g : GrpD} {ds : List RecD} {i : Nat} (h : i < ds.length) : isAt g ds i = (decide ((ds[i]).r1 = (i : Int) + 1) && rokD g ds[i]) := by
  unfold isAt
  rw [List.getElem?_eq_getElem h]
theorem allAt_false {g : GrpD} {ds : List RecD} {i : Nat} (h : i < ds.length) (hf : isAt g ds i = false) : allAt g ds = false := by
  unfold allAt
  rw [List.all_eq_false]
  exact ⟨i, List.mem_range.2 h, by simp [hf]⟩
theorem allAt_true {g : GrpD} {ds : List RecD} (h : ∀ i, i < ds.length → isAt g ds i = true) : allAt g ds = true := by
  unfold allAt
  rw [List.all_eq_true]
  exact fun i hi => h i (List.mem_range.1 hi)
/-- A right record is for a shelf of the group, which is right. -/
theorem rok_shelf {g : GrpD} {d : RecD} (h : rokD g d = true) : 0 ≤ d.r3 ∧ d.r3 ≤ g.sh - 1 ∧ okG g = true ∧ kndB g.s g.l g.c g.sh g.zs d.r2 d.r3 d.r4 d.r5 d.r6 d.r7 d.ps = true := by
  unfold rokD rokB shfB at h
  simp only [Bool.and_eq_true] at h
  obtain ⟨⟨⟨_, h1, h2⟩, h3⟩, _⟩ := h
  have := inB_true.1 h2
  exact ⟨this.1, this.2, h1, h3⟩
/-- How long a list of records is, with all that it holds. -/
def totC (ds : List RecD) : Nat := (ds.map fun d => 1 + d.ps.length).sum
theorem totC_snoc (ds : List RecD) {k : Nat} (h : k < ds.length) : totC (ds.take (k + 1)) = totC (ds.take k) + (1 + (ds[k]).ps.length) := by
  unfold totC
  rw [List.take_succ_eq_append_getElem h, List.map_append, List.sum_append]
  simp
theorem totC_take (ds : List RecD) (k : Nat) : totC (ds.take k) ≤ totC ds := by
  have h : totC (ds.take k) + totC (ds.drop k) = totC ds := by
    unfold totC
    rw [← List.sum_append, ← List.map_append, List.take_append_drop]
  omega
theorem totC_mem (ds : List RecD) {k : Nat} (h : k < ds.length) : 1 + (ds[k]).ps.length ≤ totC ds := by
  have h1 := totC_snoc ds h
  have h2 := totC_take ds (k + 1)
  omega
theorem onto_len (g : GrpD) (d : RecD) (r : RegD) {N : Nat} (h : r.ps.length + r.os.length ≤ N) : (ontoD g d r).ps.length + (ontoD g d r).os.length ≤ N + (1 + d.ps.length) := by
  unfold ontoD
  split
  · have := withO_len r.os (d.r4, d.r5, d.r6, d.r7)
    show r.ps.length + (withO r.os (d.r4, d.r5, d.r6, d.r7)).length ≤ _
    omega
  · have := outW_len (s := g.s) (l := g.l) (c := g.c) (sh := g.sh) (zs := g.zs) (x := d.r3) (rt := r.t) (rq := r.q) (rv := r.v) (ps := r.ps) (os := r.os) (ct := d.r5) (cq := d.r6) (v := d.r7) (cs := d.ps) rfl
    simp only
    omega
/-- No shelf is longer than what was done to them all. -/
theorem shelves_sz (g : GrpD) (ds : List RecD) : ∀ k, k ≤ ds.length → ∀ i, (regOf (shelves g (ds.take k)) i).ps.length + (regOf (shelves g (ds.take k)) i).os.length ≤ totC (ds.take k) := by
  intro k
  induction k with
  | zero =>
    intro _ i
    have h : regOf (shelves g (ds.take 0)) i = zeroR := by
      unfold regOf shelves
      simp only [List.take_zero, List.foldl_nil, List.getD_eq_getElem?_getD, List.getElem?_replicate]
      split <;> rfl
    rw [h]
    exact Nat.zero_le _
  | succ k ih =>
    intro hk i
    rw [shelves_snoc g ds (by omega), totC_snoc ds (by omega)]
    unfold stepR
    by_cases hi : (ds[k]).r3.toNat = i
    · subst hi
      by_cases hl : (ds[k]).r3.toNat < (shelves g (ds.take k)).length
      · have h : regOf ((shelves g (ds.take k)).set (ds[k]).r3.toNat (ontoD g ds[k] (regOf (shelves g (ds.take k)) (ds[k]).r3.toNat))) (ds[k]).r3.toNat = ontoD g ds[k] (regOf (shelves g (ds.take k)) (ds[k]).r3.toNat) := by
          simp [regOf, hl]
        rw [h]
        exact onto_len g _ _ (ih (by omega) _)
      · rw [List.set_eq_of_length_le (by omega)]
        have := ih (by omega) (ds[k]).r3.toNat
        omega
    · have h : regOf ((shelves g (ds.take k)).set (ds[k]).r3.toNat (ontoD g ds[k] (regOf (shelves g (ds.take k)) (ds[k]).r3.toNat))) i = regOf (shelves g (ds.take k)) i := by
        simp [regOf, hi]
      rw [h]
      have := ih (by omega) i
      omega

end Go.Proofs.YtjdepjpjjgkmbaaGreat

/- The laws' helpers over lists of records: the size, held against what is left; conditions: the sizes. -/
namespace Go.Proofs.YtjdepjpjjgkmbaaGreat
open Go Go.RowKit

theorem totC_rest (ds : List RecD) (k : Nat) : totC (ds.take k) + (ds.length - k) ≤ totC ds := by
  have h : totC (ds.take k) + totC (ds.drop k) = totC ds := by
    unfold totC
    rw [← List.sum_append, ← List.map_append, List.take_append_drop]
  have key : ∀ l : List RecD, l.length ≤ totC l := by
    intro l
    unfold totC
    induction l with
    | nil => exact Nat.zero_le _
    | cons d l ih => simp only [List.map_cons, List.sum_cons, List.length_cons]; omega
  have h2 := key (ds.drop k)
  rw [List.length_drop] at h2
  omega
theorem totC_zero (ds : List RecD) : totC (ds.take 0) = 0 := by simp [totC]
end Go.Proofs.YtjdepjpjjgkmbaaGreat

/- A block of records of one's own: each with its list in blocks of its own; made anew, written, read; no conditions. -/
namespace Go.Proofs.YtjdepjpjjgkmbaaGreat
open Go Go.RowKit

theorem turns_setCells9 (g : Nat) : ∀ (vs : List Value) (o : Nat) (w : World), Turns (· = g) w (w.setCells g o vs)
  | [], _, w => Turns.of_below (Below.refl _ _)
  | v :: vs, o, w => (turns_cell9 w g o v).trans (turns_setCells9 g vs (o + 1) _)
where
  turns_cell9 (w : World) (g o : Nat) (u : Value) : Turns (· = g) w (w.setCell ⟨g, o, none⟩ u) :=
    ⟨rfl, rfl, rfl, by rw [size_set]; exact Nat.le_refl _, fun i _ hne => Below.heap_setCell w ⟨g, o, none⟩ u i hne⟩
def zeroC : RecD := ⟨0, 0, 0, 0, 0, 0, 0, [], 0⟩
/-- The block g holds n records, D of them; the list of the one at place i lies in blocks of Fs i, apart from all others'. -/
structure RecsAt (w : World) (g n : Nat) (D : Nat → RecD) (Fs : Nat → Nat → Prop) : Prop where
  lt : g < w.heap.size
  fr : ∀ o, w.frozen? ⟨g, o, none⟩ = false
  row : ∀ i, i < n → ∃ u, w.rangeAt g (i * 9) ((D i).cells u).toList ∧ LieC (D i) w (Fs i) (.agg ((D i).cells u))
  apart : ∀ i, i < n → ∀ b, Fs i b → b ≠ g
  two : ∀ i j, i < n → j < n → i ≠ j → ∀ b, Fs i b → ¬ Fs j b
theorem RecsAt.turn {w w' : World} {g n : Nat} {D : Nat → RecD} {Fs : Nat → Nat → Prop} {T : Nat → Prop} (h : RecsAt w g n D Fs) (ht : Turns T w w') (hg : ¬ T g) (hF : ∀ i, i < n → ∀ b, Fs i b → ¬ T b) : RecsAt w' g n D Fs :=
  ⟨Nat.lt_of_lt_of_le h.lt ht.size, fun o => (ht.frozen h.lt hg o).trans (h.fr o), fun i hi => by
    obtain ⟨u, h1, h2⟩ := h.row i hi
    exact ⟨u, fun j v hv => (ht.cell h.lt hg _).trans (h1 j v hv), (keepsLC _).turn h2 ht (hF i hi)⟩, h.apart, h.two⟩
theorem RecsAt.later {w w' : World} {g n : Nat} {D : Nat → RecD} {Fs : Nat → Nat → Prop} (h : RecsAt w g n D Fs) (hb : Below w.heap.size w w') : RecsAt w' g n D Fs :=
  h.turn (T := fun _ => False) (Turns.of_below hb) (fun h => h) (fun _ _ _ _ h => h)
theorem cells_len (d : RecD) (u : Value) : (d.cells u).toList.length = 9 := rfl
theorem RecsAt.there {w : World} {g n : Nat} {D : Nat → RecD} {Fs : Nat → Nat → Prop} (h : RecsAt w g n D Fs) {i : Nat} (hi : i < n) : w.there g (i * 9) 9 := fun j hj => by
  obtain ⟨u, h1, -⟩ := h.row i hi
  exact ⟨h1.isSome j (by rw [cells_len]; exact hj), h.fr _⟩
def upD (D : Nat → RecD) (i : Nat) (d : RecD) : Nat → RecD := fun j => if j = i then d else D j
def upFs (Fs : Nat → Nat → Prop) (i : Nat) (F : Nat → Prop) : Nat → Nat → Prop := fun j => if j = i then F else Fs j
/-- One of them is written anew. -/
theorem RecsAt.put {w : World} {g n : Nat} {D : Nat → RecD} {Fs : Nat → Nat → Prop} (h : RecsAt w g n D Fs) {i : Nat} (hi : i < n) {d : RecD} {F : Nat → Prop} {u : Value} (hL : LieC d w F (.agg (d.cells u))) (hg : ∀ b, F b → b ≠ g) (ho : ∀ j, j < n → j ≠ i → ∀ b, F b → ¬ Fs j b) :
    RecsAt (w.setCells g (i * 9) (d.cells u).toList) g n (upD D i d) (upFs Fs i F) := by
  have ht := turns_setCells9 g (d.cells u).toList (i * 9) w
  refine ⟨Nat.lt_of_lt_of_le h.lt ht.size, fun o => (World.frozen?_setCells g _ _ _ _).trans (h.fr o), fun j hj => ?_, fun j hj b hb => ?_, fun j k hj hk hjk b hb hb2 => ?_⟩
  · by_cases e : j = i
    · subst e
      refine ⟨u, ?_, ?_⟩
      · simp only [upD, if_true]
        exact World.rangeAt_setCells_same w g _ _ (h.there hi)
      · simp only [upD, upFs, if_true]
        exact (keepsLC _).turn hL ht hg
    · obtain ⟨u', h1, h2⟩ := h.row j hj
      refine ⟨u', ?_, ?_⟩
      · simp only [upD, if_neg e]
        exact World.rangeAt_setCells_apart h1 g _ _ (.inr (by simp only [cells_len]; omega))
      · simp only [upD, upFs, if_neg e]
        exact (keepsLC _).turn h2 ht (h.apart j hj)
  · unfold upFs at hb
    split at hb
    · exact hg b hb
    · exact h.apart j hj b hb
  · unfold upFs at hb hb2
    split at hb <;> split at hb2
    · omega
    · exact ho k hk (by assumption) b hb hb2
    · exact ho j hj (by assumption) b hb2 hb
    · exact h.two j k hj hk hjk b hb hb2
/-- Records of one's own behind lo: no list lies below it. -/
def RecsOwn (w : World) (g lo n : Nat) (D : Nat → RecD) : Prop :=
  lo ≤ g ∧ ∃ Fs, RecsAt w g n D Fs ∧ ∀ i, i < n → ∀ b, Fs i b → lo ≤ b ∧ b < w.heap.size
theorem RecsOwn.turn {w w' : World} {g lo n : Nat} {D : Nat → RecD} {T : Nat → Prop} (h : RecsOwn w g lo n D) (ht : Turns T w w') (hT : ∀ b, T b → b < lo) : RecsOwn w' g lo n D := by
  obtain ⟨hg, Fs, hR, hF⟩ := h
  exact ⟨hg, Fs, hR.turn ht (fun h => by have := hT _ h; omega) (fun i hi b hb hb2 => by have := hT b hb2; have := (hF i hi b hb).1; omega), fun i hi b hb => ⟨(hF i hi b hb).1, Nat.lt_of_lt_of_le (hF i hi b hb).2 ht.size⟩⟩
theorem RecsOwn.later {w w' : World} {g lo n : Nat} {D : Nat → RecD} (h : RecsOwn w g lo n D) (hb : Below w.heap.size w w') : RecsOwn w' g lo n D := h.turn (T := fun _ => False) (Turns.of_below hb) (fun _ h => h.elim)
/-- One of them is written anew, with a new list. -/
theorem RecsOwn.put {w w1 : World} {g lo n : Nat} {D : Nat → RecD} (h : RecsOwn w g lo n D) (hb : Below w.heap.size w w1) {i : Nat} (hi : i < n) {d : RecD} {u : Value} (hL : LieC d w1 (Iv w.heap.size w1.heap.size) (.agg (d.cells u))) :
    RecsOwn (w1.setCells g (i * 9) (d.cells u).toList) g lo n (upD D i d) := by
  obtain ⟨hg, Fs, hR, hF⟩ := h
  have hlt := hR.lt
  have hs := (turns_setCells9 g (d.cells u).toList (i * 9) w1).size
  refine ⟨hg, _, (hR.later hb).put hi hL (fun b hb1 => by have := hb1.1; omega) (fun j hj _ b hb1 hb2 => by have := hb1.1; have := (hF j hj b hb2).2; omega), fun j hj b hb1 => ?_⟩
  unfold upFs at hb1
  split at hb1
  · exact ⟨by have := hb1.1; omega, Nat.lt_of_lt_of_le hb1.2 hs⟩
  · have := hF j hj b hb1
    have := hb.size
    omega
theorem RecsOwn.low {w : World} {g lo lo' n : Nat} {D : Nat → RecD} (h : RecsOwn w g lo n D) (hl : lo' ≤ lo) : RecsOwn w g lo' n D := by
  obtain ⟨hg, Fs, hR, hF⟩ := h
  exact ⟨by omega, Fs, hR, fun i hi b hb => ⟨by have := (hF i hi b hb).1; omega, (hF i hi b hb).2⟩⟩
end Go.Proofs.YtjdepjpjjgkmbaaGreat

/- The laws' copy of a list of records; conditions: the sizes. -/
namespace Go.Proofs.YtjdepjpjjgkmbaaGreat
open Go Go.RowKit

theorem Tryz.infoRec9 : (Tryz.prog.info? 46).map (fun i => (i.zero, i.size, i.bytes)) = some (some (.agg (zeroC.cells (.slice none 0 0))), 9, 88) := by kernel_rfl
theorem run_make_recs {P : Program} (t e : TypeId) (ht : P.underlying t = some (.slice e)) (hinfo : (P.info? e).map (fun i => (i.zero, i.size, i.bytes)) = some (some (.agg (zeroC.cells (.slice none 0 0))), 9, 88))
    (n : Nat) (hn : n ≤ 1048576) (w : World) :
    (Instr.makeSlice t (.int .i64 (n : Int)) (.int .i64 (n : Int))).run P w = .ok (.slice (some ⟨w.heap.size, 0, none⟩) n n) (w.alloc (.cells (madeCells (zeroC.cells (.slice none 0 0)) (n * 9)) e)) := by
  obtain ⟨i, hi, hzz⟩ := Option.map_eq_some_iff.1 hinfo
  simp only [Prod.mk.injEq] at hzz
  obtain ⟨hz, hs, hb⟩ := hzz
  have hr := run_make (P := P) w t e i _ ht hi hz .i64 .i64 n n (by omega) (Int.le_refl _) (by rw [hb]; omega) (by omega)
  simp only [Int.toNat_natCast, hs] at hr
  exact hr
/-- The first k of them, and nothing behind. -/
def recsK (ds : List RecD) (k : Nat) : Nat → RecD := fun j => if j < k then ds.getD j zeroC else zeroC
theorem RecsOwn.there {w : World} {g lo n : Nat} {D : Nat → RecD} (h : RecsOwn w g lo n D) {i : Nat} (hi : i < n) : w.there g (i * 9) 9 := by
  obtain ⟨_, Fs, hR, _⟩ := h
  exact hR.there hi
end Go.Proofs.YtjdepjpjjgkmbaaGreat

/- Records of one's own, read as a list; conditions: none. -/
namespace Go.Proofs.YtjdepjpjjgkmbaaGreat
open Go Go.RowKit

theorem RecsOwn.reads {w : World} {G lo n : Nat} {ds : List RecD} (h : RecsOwn w G lo n (recsK ds n)) (hn : ds.length = n) : RecsF ds w (fun b => b < w.heap.size) (some ⟨G, 0, none⟩) n := by
  obtain ⟨_, Fs, hR, hF⟩ := h
  refine ⟨hn, fun _ => ⟨G, 0, rfl, hR.lt, hR.lt, fun i hi => ?_⟩⟩
  have hi' : i < n := by omega
  obtain ⟨u, h1, h2⟩ := hR.row i hi'
  have hd : recsK ds n i = ds[i] := by
    unfold recsK
    rw [if_pos hi', List.getD_eq_getElem?_getD, List.getElem?_eq_getElem hi]
    rfl
  rw [hd] at h1 h2
  obtain ⟨L, m, mc, e, hm, hp⟩ := ((keepsC _).sub h2.at (fun b hb => (hF i hi' b hb).2) : AtC ds[i] w (fun b => b < w.heap.size) _)
  injection e with e
  have hu : u = .slice L m mc := by simpa [RecD.cells] using e
  subst hu
  refine ⟨L, m, mc, ?_, hm, hp⟩
  rw [Nat.zero_add]
  exact ⟨h1 0 _ rfl, h1 1 _ rfl, h1 2 _ rfl, h1 3 _ rfl, h1 4 _ rfl, h1 5 _ rfl, h1 6 _ rfl, h1 7 _ rfl, h1 8 _ rfl⟩
end Go.Proofs.YtjdepjpjjgkmbaaGreat

/- A journal as data: two lists of records; read, and of one's own; no conditions. -/
namespace Go.Proofs.YtjdepjpjjgkmbaaGreat
open Go Go.RowKit

structure JourD where
  ks : List RecD
  ls : List RecD
def JourD.sz (d : JourD) : Nat := totC d.ks + totC d.ls
/-- A value reads as a journal, through blocks of F alone. -/
def AtJ (d : JourD) (w : World) (F : Nat → Prop) (v : Value) : Prop :=
  ∃ (A : Option Addr) (n c : Nat) (A' : Option Addr) (n' c' : Nat), v = .agg #[.slice A n c, .slice A' n' c'] ∧ n ≤ maxLen ∧ n' ≤ maxLen ∧ RecsF d.ks w F A n ∧ RecsF d.ls w F A' n'
theorem keepsJ (d : JourD) : Keeps (AtJ d) :=
  ⟨fun ⟨A, n, c, A', n', c', e, h1, h2, h3, h4⟩ ht hd => ⟨A, n, c, A', n', c', e, h1, h2, h3.turn ht hd, h4.turn ht hd⟩, fun ⟨A, n, c, A', n', c', e, h1, h2, h3, h4⟩ hs => ⟨A, n, c, A', n', c', e, h1, h2, h3.sub hs, h4.sub hs⟩⟩
theorem sizeJ {d : JourD} {w : World} {F : Nat → Prop} {C : Array Value} (h : AtJ d w F (.agg C)) : (Tryz.prog.info? 50).map (·.size) = some C.size ∧ (Tryz.prog.info? 29).map (·.size) = some C.size := by
  obtain ⟨A, n, c, A', n', c', e, _⟩ := h
  injection e with e
  subst e
  exact ⟨by kernel_rfl, by kernel_rfl⟩
theorem oneJ {d : JourD} {w : World} {F : Nat → Prop} {C : Array Value} (h : AtJ d w F (.agg C)) : C.size = 2 ∧ C.all (·.oneCell') = true := by
  obtain ⟨A, n, c, A', n', c', e, _⟩ := h
  injection e with e
  subst e
  exact ⟨rfl, by simp [Value.oneCell']⟩
theorem RecsF.lt {ds : List RecD} {w : World} {F : Nat → Prop} {A : Option Addr} {n : Nat} (h : RecsF ds w F A n) : RecsF ds w (fun b => F b ∧ b < w.heap.size) A n := by
  refine ⟨h.1, fun hn => ?_⟩
  obtain ⟨b, o, hA, hF, hb, hc⟩ := h.2 hn
  refine ⟨b, o, hA, ⟨hF, hb⟩, hb, fun i hi => ?_⟩
  obtain ⟨L, m, mc, h1, h2, h3⟩ := hc i hi
  refine ⟨L, m, mc, h1, h2, h3.1, fun hm b' o' e => ⟨h3.2 hm b' o' e, ?_⟩⟩
  obtain ⟨b2, o2, e2, hb2, _⟩ := h3.1.2 hm
  rw [e] at e2
  injection e2 with e2
  injection e2 with e2
  subst e2
  exact hb2
/-- A list of records of one's own: nil, or a block, and the records' lists; all in blocks of F. -/
def OwnCS (ds : List RecD) (w : World) (F : Nat → Prop) (v : Value) : Prop :=
  (v = .slice none 0 0 ∧ ds = []) ∨ ∃ (G c : Nat) (Fs : Nat → Nat → Prop), F G ∧ v = .slice (some ⟨G, 0, none⟩) ds.length c ∧ ds.length ≤ c ∧ c ≤ maxLen ∧ RecsAt w G ds.length (recsK ds ds.length) Fs ∧ ∀ i, i < ds.length → ∀ b, Fs i b → F b ∧ b < w.heap.size
theorem OwnCS.turn {ds : List RecD} {w w' : World} {F T : Nat → Prop} {v : Value} (h : OwnCS ds w F v) (ht : Turns T w w') (hd : ∀ b, F b → ¬ T b) : OwnCS ds w' F v := by
  rcases h with h | ⟨G, c, Fs, hG, e, h1, h2, hR, hF⟩
  · exact .inl h
  · exact .inr ⟨G, c, Fs, hG, e, h1, h2, hR.turn ht (hd G hG) (fun i hi b hb => hd b (hF i hi b hb).1), fun i hi b hb => ⟨(hF i hi b hb).1, Nat.lt_of_lt_of_le (hF i hi b hb).2 ht.size⟩⟩
theorem OwnCS.later {ds : List RecD} {w w' : World} {F : Nat → Prop} {v : Value} (h : OwnCS ds w F v) (hb : Below w.heap.size w w') : OwnCS ds w' F v := h.turn (T := fun _ => False) (Turns.of_below hb) (fun _ _ h => h)
theorem OwnCS.sub {ds : List RecD} {w : World} {F F' : Nat → Prop} {v : Value} (h : OwnCS ds w F v) (hs : ∀ b, F b → F' b) : OwnCS ds w F' v := by
  rcases h with h | ⟨G, c, Fs, hG, e, h1, h2, hR, hF⟩
  · exact .inl h
  · exact .inr ⟨G, c, Fs, hs G hG, e, h1, h2, hR, fun i hi b hb => ⟨hs b (hF i hi b hb).1, (hF i hi b hb).2⟩⟩
theorem OwnCS.lt {ds : List RecD} {w : World} {F : Nat → Prop} {v : Value} (h : OwnCS ds w F v) : OwnCS ds w (fun b => F b ∧ b < w.heap.size) v := by
  rcases h with h | ⟨G, c, Fs, hG, e, h1, h2, hR, hF⟩
  · exact .inl h
  · exact .inr ⟨G, c, Fs, ⟨hG, hR.lt⟩, e, h1, h2, hR, fun i hi b hb => ⟨hF i hi b hb, (hF i hi b hb).2⟩⟩
theorem recsK_at {ds : List RecD} {n i : Nat} (hn : ds.length = n) (h : i < ds.length) : recsK ds n i = ds[i] := by
  unfold recsK
  rw [if_pos (by omega), List.getD_eq_getElem?_getD, List.getElem?_eq_getElem h]
  rfl
/-- One's own list, read. -/
theorem OwnCS.reads {ds : List RecD} {w : World} {F : Nat → Prop} {v : Value} (h : OwnCS ds w F v) : ∃ A c, v = .slice A ds.length c ∧ RecsF ds w F A ds.length := by
  rcases h with ⟨rfl, rfl⟩ | ⟨G, c, Fs, hG, e, h1, h2, hR, hF⟩
  · exact ⟨none, 0, rfl, rfl, fun hn => absurd hn (Nat.lt_irrefl _)⟩
  · refine ⟨_, c, e, rfl, fun _ => ⟨G, 0, rfl, hG, hR.lt, fun i hi => ?_⟩⟩
    obtain ⟨u, g1, g2⟩ := hR.row i hi
    rw [recsK_at rfl hi] at g1 g2
    obtain ⟨L, m, mc, e, hm, hp⟩ := ((keepsC _).sub g2.at (fun b hb => (hF i hi b hb).1) : AtC ds[i] w F _)
    injection e with e
    have hu : u = .slice L m mc := by simpa [RecD.cells] using e
    subst hu
    refine ⟨L, m, mc, ?_, hm, hp⟩
    rw [Nat.zero_add]
    exact ⟨g1 0 _ rfl, g1 1 _ rfl, g1 2 _ rfl, g1 3 _ rfl, g1 4 _ rfl, g1 5 _ rfl, g1 6 _ rfl, g1 7 _ rfl, g1 8 _ rfl⟩
theorem OwnCS.len {ds : List RecD} {w : World} {F : Nat → Prop} {v : Value} (h : OwnCS ds w F v) : ds.length ≤ maxLen := by
  rcases h with ⟨rfl, rfl⟩ | ⟨G, c, Fs, hG, e, h1, h2, hR, hF⟩
  · exact Nat.zero_le _
  · omega
theorem RecsOwn.cs {w : World} {G lo n c : Nat} {ds : List RecD} (h : RecsOwn w G lo n (recsK ds n)) (hn : ds.length = n) (hc : n ≤ c) (hm : c ≤ maxLen) : OwnCS ds w (Iv lo w.heap.size) (.slice (some ⟨G, 0, none⟩) n c) := by
  subst hn
  obtain ⟨hg, Fs, hR, hF⟩ := h
  exact .inr ⟨G, c, Fs, ⟨hg, hR.lt⟩, rfl, hc, hm, hR, fun i hi b hb => ⟨hF i hi b hb, (hF i hi b hb).2⟩⟩
/-- A journal of one's own: its two lists apart. -/
def LieJ (d : JourD) (w : World) (F : Nat → Prop) (v : Value) : Prop :=
  ∃ (u u' : Value) (F1 F2 : Nat → Prop), v = .agg #[u, u'] ∧ OwnCS d.ks w F1 u ∧ OwnCS d.ls w F2 u' ∧ (∀ b, F1 b → F b) ∧ (∀ b, F2 b → F b) ∧ ∀ b, F1 b → ¬ F2 b
theorem keepsLJ (d : JourD) : Keeps (LieJ d) :=
  ⟨fun ⟨u, u', F1, F2, e, h1, h2, s1, s2, ha⟩ ht hd => ⟨u, u', F1, F2, e, h1.turn ht (fun b hb => hd b (s1 b hb)), h2.turn ht (fun b hb => hd b (s2 b hb)), s1, s2, ha⟩, fun ⟨u, u', F1, F2, e, h1, h2, s1, s2, ha⟩ hs => ⟨u, u', F1, F2, e, h1, h2, fun b hb => hs b (s1 b hb), fun b hb => hs b (s2 b hb), ha⟩⟩
theorem LieJ.at {d : JourD} {w : World} {F : Nat → Prop} {v : Value} (h : LieJ d w F v) : AtJ d w F v := by
  obtain ⟨u, u', F1, F2, rfl, h1, h2, s1, s2, -⟩ := h
  have l1 := h1.len
  have l2 := h2.len
  obtain ⟨A, c, rfl, r1⟩ := h1.reads
  obtain ⟨A', c', rfl, r2⟩ := h2.reads
  exact ⟨A, _, c, A', _, c', rfl, l1, l2, r1.sub s1, r2.sub s2⟩
end Go.Proofs.YtjdepjpjjgkmbaaGreat

/- Lists of records as cells: a row of nine cells a record; a list somewhere, read; conditions: none. -/
namespace Go.Proofs.YtjdepjpjjgkmbaaGreat
open Go Go.RowKit

/-- The cells of records, each with its list. -/
def flatC (ms : List (RecD × Value)) : List Value := ms.flatMap fun p => (p.1.cells p.2).toList
theorem flatC_len (ms : List (RecD × Value)) : (flatC ms).length = ms.length * 9 := by
  induction ms with
  | nil => rfl
  | cons p ms ih =>
    have e : flatC (p :: ms) = (p.1.cells p.2).toList ++ flatC ms := rfl
    rw [e, List.length_append, ih, List.length_cons, cells_len]
    omega
theorem flatC_app (a b : List (RecD × Value)) : flatC (a ++ b) = flatC a ++ flatC b := by simp [flatC]
theorem flatC_at {ms : List (RecD × Value)} {i : Nat} (h : i < ms.length) {j : Nat} (hj : j < 9) : (flatC ms)[i * 9 + j]? = ((ms[i]).1.cells (ms[i]).2).toList[j]? := by
  induction ms generalizing i with
  | nil => simp at h
  | cons p ms ih =>
    have e : flatC (p :: ms) = (p.1.cells p.2).toList ++ flatC ms := rfl
    rw [e]
    rcases i with _ | i
    · rw [List.getElem?_append_left (by rw [cells_len]; omega)]
      simp
    · rw [List.getElem?_append_right (by rw [cells_len]; omega), cells_len, show (i + 1) * 9 + j - 9 = i * 9 + j by omega]
      exact ih (by simpa using h)
theorem flatC_one {ms : List (RecD × Value)} (h : ∀ p ∈ ms, p.2.oneCell' = true) : ∀ u ∈ flatC ms, u.oneCell' = true := by
  intro u hu
  unfold flatC at hu
  rw [List.mem_flatMap] at hu
  obtain ⟨p, hp, hu⟩ := hu
  have h2 := h p hp
  simp only [RecD.cells, List.mem_cons, List.mem_nil_iff, or_false] at hu
  rcases hu with rfl | rfl | rfl | rfl | rfl | rfl | rfl | rfl | rfl
  all_goals first | rfl | exact h2
/-- A list of pairs somewhere: nil, or at an address, in a block of F. -/
def SlcF (w : World) (F : Nat → Prop) (v : Value) (ps : List (Int × Int)) : Prop :=
  (v = .slice none 0 0 ∧ ps = []) ∨ ∃ b o n cap, v = .slice (some ⟨b, o, none⟩) n cap ∧ n ≤ maxLen ∧ PairsF w F (some ⟨b, o, none⟩) n ps
theorem SlcF.turn {T : Nat → Prop} {w w' : World} {F : Nat → Prop} {v : Value} {ps : List (Int × Int)} (h : SlcF w F v ps) (ht : Turns T w w') (hd : ∀ b, F b → ¬ T b) : SlcF w' F v ps := by
  rcases h with h | ⟨b, o, n, cap, e, hm, hp⟩
  · exact .inl h
  · exact .inr ⟨b, o, n, cap, e, hm, hp.turn ht hd⟩
theorem SlcF.sub {w : World} {F F' : Nat → Prop} {v : Value} {ps : List (Int × Int)} (h : SlcF w F v ps) (hs : ∀ b, F b → F' b) : SlcF w F' v ps := by
  rcases h with h | ⟨b, o, n, cap, e, hm, hp⟩
  · exact .inl h
  · exact .inr ⟨b, o, n, cap, e, hm, hp.1, fun hn b o e => hs b (hp.2 hn b o e)⟩
theorem SlcF.lt {w : World} {F : Nat → Prop} {v : Value} {ps : List (Int × Int)} (h : SlcF w F v ps) : SlcF w (fun b => F b ∧ b < w.heap.size) v ps := by
  rcases h with h | ⟨b, o, n, cap, e, hm, hp⟩
  · exact .inl h
  · refine .inr ⟨b, o, n, cap, e, hm, hp.1, fun hn b' o' e' => ⟨hp.2 hn b' o' e', ?_⟩⟩
    obtain ⟨b2, o2, e2, hb2, _⟩ := hp.1.2 hn
    rw [e'] at e2
    injection e2 with e2
    injection e2 with e2
    subst e2
    exact hb2
theorem SlcF.slc {w : World} {F : Nat → Prop} {v : Value} {ps : List (Int × Int)} (h : SlcF w F v ps) : Slc w v ps := by
  rcases h with h | ⟨b, o, n, cap, e, hm, hp⟩
  · exact .inl h
  · exact .inr ⟨b, o, n, cap, e, hp.1⟩
theorem SlcF.at {w : World} {F : Nat → Prop} {v : Value} {ps : List (Int × Int)} (h : SlcF w F v ps) : ∃ L m mc, v = .slice L m mc ∧ m ≤ maxLen ∧ PairsF w F L m ps := by
  rcases h with ⟨rfl, rfl⟩ | ⟨b, o, n, cap, e, hm, hp⟩
  · exact ⟨none, 0, 0, rfl, Nat.zero_le _, ⟨rfl, fun hn => absurd hn (by omega)⟩, fun hn => absurd hn (by omega)⟩
  · exact ⟨_, n, cap, e, hm, hp⟩
theorem OwnP.somewhere {w : World} {F : Nat → Prop} {v : Value} {ps : List (Int × Int)} (h : OwnP w F v ps) : SlcF w F v ps := by
  have h' := h
  rcases h with h | ⟨g, cap, hg, e, h0, h1, hh⟩
  · exact .inl h
  · obtain ⟨A, c, e', hm, hp, _⟩ := h'.at
    rw [e] at e'
    injection e' with e1 e2 e3
    subst e1
    exact .inr ⟨g, 0, _, cap, e, hm, hp⟩
/-- The records' lists can be read, through blocks of F. -/
def CertsF (w : World) (F : Nat → Prop) (ms : List (RecD × Value)) : Prop := ∀ p ∈ ms, SlcF w F p.2 p.1.ps
theorem CertsF.one {w : World} {F : Nat → Prop} {ms : List (RecD × Value)} (h : CertsF w F ms) : ∀ p ∈ ms, p.2.oneCell' = true := fun p hp => by
  obtain ⟨L, m, mc, e, -⟩ := (h p hp).at
  rw [e]
  rfl
theorem CertsF.turn {T : Nat → Prop} {w w' : World} {F : Nat → Prop} {ms : List (RecD × Value)} (h : CertsF w F ms) (ht : Turns T w w') (hd : ∀ b, F b → ¬ T b) : CertsF w' F ms := fun p hp => (h p hp).turn ht hd
theorem CertsF.later {w w' : World} {F : Nat → Prop} {ms : List (RecD × Value)} (h : CertsF w F ms) (hb : Below w.heap.size w w') : CertsF w' F ms := h.turn (T := fun _ => False) (Turns.of_below hb) (fun _ _ h => h)
theorem CertsF.sub {w : World} {F F' : Nat → Prop} {ms : List (RecD × Value)} (h : CertsF w F ms) (hs : ∀ b, F b → F' b) : CertsF w F' ms := fun p hp => (h p hp).sub hs
theorem CertsF.app {w : World} {F : Nat → Prop} {a b : List (RecD × Value)} (h : CertsF w F a) (h' : CertsF w F b) : CertsF w F (a ++ b) := fun p hp => by
  rcases List.mem_append.1 hp with hp | hp
  · exact h p hp
  · exact h' p hp
/-- Records' cells in a block, from a place on. -/
def CellsAt (w : World) (b o : Nat) (ms : List (RecD × Value)) : Prop := ∀ j x, (flatC ms)[j]? = some x → w.cell? ⟨b, o + j, none⟩ = some x
/-- A list of records somewhere: nil, or at an address. -/
def ListS (ds : List RecD) (w : World) (F : Nat → Prop) (v : Value) : Prop :=
  (v = .slice none 0 0 ∧ ds = []) ∨ ∃ b o c, v = .slice (some ⟨b, o, none⟩) ds.length c ∧ ds.length ≤ c ∧ c ≤ maxLen ∧ (0 < ds.length → F b ∧ b < w.heap.size) ∧ ∃ ms : List (RecD × Value), ms.map (·.1) = ds ∧ CertsF w F ms ∧ CellsAt w b o ms
theorem flatC_lt {ms : List (RecD × Value)} {j : Nat} {x : Value} (h : (flatC ms)[j]? = some x) : j < ms.length * 9 := by
  have := (List.getElem?_eq_some_iff.1 h).1
  rwa [flatC_len] at this
theorem ListS.turn {T : Nat → Prop} {ds : List RecD} {w w' : World} {F : Nat → Prop} {v : Value} (h : ListS ds w F v) (ht : Turns T w w') (hd : ∀ b, F b → ¬ T b) : ListS ds w' F v := by
  rcases h with h | ⟨b, o, c, e, h1, h2, h3, ms, hm, hc, hx⟩
  · exact .inl h
  · refine .inr ⟨b, o, c, e, h1, h2, fun hn => ⟨(h3 hn).1, Nat.lt_of_lt_of_le (h3 hn).2 ht.size⟩, ms, hm, hc.turn ht hd, fun j x hj => ?_⟩
    have hn : 0 < ds.length := by have := flatC_lt hj; rw [← hm, List.length_map]; omega
    exact (ht.cell (h3 hn).2 (hd b (h3 hn).1) _).trans (hx j x hj)
theorem ListS.later {ds : List RecD} {w w' : World} {F : Nat → Prop} {v : Value} (h : ListS ds w F v) (hb : Below w.heap.size w w') : ListS ds w' F v := h.turn (T := fun _ => False) (Turns.of_below hb) (fun _ _ h => h)
theorem ListS.sub {ds : List RecD} {w : World} {F F' : Nat → Prop} {v : Value} (h : ListS ds w F v) (hs : ∀ b, F b → F' b) : ListS ds w F' v := by
  rcases h with h | ⟨b, o, c, e, h1, h2, h3, ms, hm, hc, hx⟩
  · exact .inl h
  · exact .inr ⟨b, o, c, e, h1, h2, fun hn => ⟨hs b (h3 hn).1, (h3 hn).2⟩, ms, hm, hc.sub hs, hx⟩
theorem ListS.lt {ds : List RecD} {w : World} {F : Nat → Prop} {v : Value} (h : ListS ds w F v) : ListS ds w (fun b => F b ∧ b < w.heap.size) v := by
  rcases h with h | ⟨b, o, c, e, h1, h2, h3, ms, hm, hc, hx⟩
  · exact .inl h
  · exact .inr ⟨b, o, c, e, h1, h2, fun hn => ⟨h3 hn, (h3 hn).2⟩, ms, hm, fun p hp => (hc p hp).lt, hx⟩
theorem flatC_row {w : World} {b o : Nat} {ms : List (RecD × Value)} (hx : CellsAt w b o ms) {i : Nat} (hi : i < ms.length) : RecAt w b (o + i * 9) (ms[i]).1 (ms[i]).2 := by
  have C : ∀ j x, j < 9 → ((ms[i]).1.cells (ms[i]).2).toList[j]? = some x → w.cell? ⟨b, o + i * 9 + j, none⟩ = some x := fun j x hj h => by
    have h2 := hx (i * 9 + j) x (by rw [flatC_at hi hj]; exact h)
    rwa [← Nat.add_assoc] at h2
  exact ⟨C 0 _ (by omega) rfl, C 1 _ (by omega) rfl, C 2 _ (by omega) rfl, C 3 _ (by omega) rfl, C 4 _ (by omega) rfl, C 5 _ (by omega) rfl, C 6 _ (by omega) rfl, C 7 _ (by omega) rfl, C 8 _ (by omega) rfl⟩
theorem map_at {ms : List (RecD × Value)} {ds : List RecD} (hm : ms.map (·.1) = ds) {i : Nat} (h : i < ds.length) : ∃ h' : i < ms.length, (ms[i]).1 = ds[i] := by
  subst hm
  have h' : i < ms.length := by rwa [List.length_map] at h
  exact ⟨h', by simp⟩
theorem ListS.at {ds : List RecD} {w : World} {F : Nat → Prop} {v : Value} (h : ListS ds w F v) : ∃ A c, v = .slice A ds.length c ∧ ds.length ≤ maxLen ∧ RecsF ds w F A ds.length := by
  rcases h with ⟨rfl, rfl⟩ | ⟨b, o, c, e, h1, h2, h3, ms, hm, hc, hx⟩
  · exact ⟨none, 0, rfl, Nat.zero_le _, rfl, fun hn => absurd hn (Nat.lt_irrefl _)⟩
  · refine ⟨_, c, e, Nat.le_trans h1 h2, rfl, fun hn => ⟨b, o, rfl, (h3 hn).1, (h3 hn).2, fun i hi => ?_⟩⟩
    obtain ⟨hi', ed⟩ := map_at hm hi
    obtain ⟨L, m, mc, e1, h4, h5⟩ := (hc ms[i] (List.getElem_mem hi')).at
    have hr := flatC_row hx hi'
    rw [ed, e1] at hr
    rw [ed] at h5
    exact ⟨L, m, mc, hr, h4, h5⟩
theorem OwnCS.list {ds : List RecD} {w : World} {F : Nat → Prop} {v : Value} (h : OwnCS ds w F v) : ListS ds w F v := by
  rcases h with h | ⟨G, c, Fs, hG, e, h1, h2, hR, hF⟩
  · exact .inl h
  · have each : ∀ i, i < ds.length → ∃ u : Value, ∀ hi : i < ds.length, w.rangeAt G (i * 9) ((ds[i]).cells u).toList ∧ SlcF w F u (ds[i]).ps := by
      intro i hi
      obtain ⟨u, g1, g2⟩ := hR.row i hi
      rw [recsK_at rfl hi] at g1 g2
      obtain ⟨u', e', ho⟩ := g2
      injection e' with e'
      have hu : u = u' := by simpa [RecD.cells] using e'
      subst hu
      exact ⟨u, fun _ => ⟨g1, (ho.sub (fun b hb => (hF i hi b hb).1)).somewhere⟩⟩
    haveI : Inhabited Value := ⟨.slice none 0 0⟩
    obtain ⟨q, hq⟩ := Go.Deep.choose_lt each
    have hlen : (ds.mapIdx fun i d => (d, q i)).length = ds.length := by simp
    refine .inr ⟨G, 0, c, e, h1, h2, fun _ => ⟨hG, hR.lt⟩, ds.mapIdx fun i d => (d, q i), ?_, fun p hp => ?_, fun j x hj => ?_⟩
    · apply List.ext_getElem
      · simp
      · intro i h1 h2
        simp
    · obtain ⟨i, hi, rfl⟩ := List.mem_iff_getElem.1 hp
      rw [hlen] at hi
      simp only [List.getElem_mapIdx]
      exact (hq i hi hi).2
    · have hjl := flatC_lt hj
      rw [hlen] at hjl
      have hi : j / 9 < ds.length := by omega
      have hjm : j % 9 < 9 := by omega
      have e := flatC_at (ms := ds.mapIdx fun i d => (d, q i)) (i := j / 9) (by rw [hlen]; exact hi) hjm
      rw [show j / 9 * 9 + j % 9 = j by omega, hj] at e
      simp only [List.getElem_mapIdx] at e
      have h3 := (hq (j / 9) hi hi).1 (j % 9) x e.symm
      rwa [show j / 9 * 9 + j % 9 = 0 + j by omega] at h3
theorem ListS.src {ds : List RecD} {w : World} {F : Nat → Prop} {v : Value} (h : ListS ds w F v) : ∃ ms : List (RecD × Value), ms.map (·.1) = ds ∧ CertsF w F ms ∧ Src w v ds.length 9 (flatC ms) := by
  rcases h with ⟨rfl, rfl⟩ | ⟨b, o, c, e, h1, h2, h3, ms, hm, hc, hx⟩
  · exact ⟨[], rfl, fun p hp => absurd hp (List.not_mem_nil), .inl ⟨rfl, rfl, rfl⟩⟩
  · refine ⟨ms, hm, hc, .inr ⟨⟨b, o, none⟩, c, e, ?_, fun j x hj => ?_, flatC_one hc.one⟩⟩
    · rw [flatC_len, ← hm, List.length_map]
    · rw [show (⟨b, o, none⟩ : Addr).add j = ⟨b, o + j, none⟩ by unfold Addr.add; split <;> simp_all]
      exact hx j x hj
/-- A row of one's own, whose records' lists can be read, is a list. -/
theorem row_list {w : World} {base n : Nat} {t : TypeId} {v : Value} {ms : List (RecD × Value)} {F : Nat → Prop} (h : w.ownsRow base t 9 v n (flatC ms)) (hn : ms.length = n) (hc : CertsF w F ms) (hF : ∀ b, base ≤ b → b < w.heap.size → F b) : ListS (ms.map (·.1)) w F v := by
  have hlen : (ms.map (·.1)).length = n := by rw [List.length_map, hn]
  rcases h.2 with ⟨e, h0⟩ | ⟨g, cap, cur, e, hb, hg, h1, h2, -, -⟩
  · refine .inl ⟨e, List.eq_nil_of_length_eq_zero (by rw [hlen, h0])⟩
  · have hgl : g < w.heap.size := (h.lt g (by rw [e]; rfl)).2
    subst e
    refine .inr ⟨g, 0, cap, by rw [hlen], by rw [hlen]; exact h1, h2, fun _ => ⟨hF g hb hgl, hgl⟩, ms, rfl, hc, fun j x hj => ?_⟩
    have := flatC_lt hj
    rw [Nat.zero_add, h.cellAt j (by omega)]
    exact hj
theorem Src.later {w w' : World} {u : Value} {m size : Nat} {news : List Value} (h : Src w u m size news) (hb : Below w.heap.size w w') : Src w' u m size news := by
  rcases h with h | ⟨ad, c, e, h1, h2, h3⟩
  · exact .inl h
  · exact .inr ⟨ad, c, e, h1, fun j x hx => by
      have h4 := h2 j x hx
      exact (hb.cell (p := ad.add j) (block_lt_of_cell h4)).trans h4, h3⟩
end Go.Proofs.YtjdepjpjjgkmbaaGreat

/- The library's Grow and Concat over lists of records: two of them, one behind the other; conditions: the sizes. -/
namespace Go.Proofs.YtjdepjpjjgkmbaaGreat
open Go Go.RowKit

theorem Tryz.infoRecI : (Tryz.prog.info? 46).map (fun i => (i.zero, i.size, i.bytes)) = some (some (.agg #[.int .i64 0, .int .i64 0, .int .i64 0, .int .i64 0, .int .i64 0, .int .i64 0, .int .i64 0, .slice none 0 0, .int .i64 0]), 9, 88) := by kernel_rfl
set_option maxRecDepth 100000 in
set_option maxHeartbeats 1000000 in
theorem growRec_is (n : Nat) (w : World) (hn : n ≤ 4194304) :
    Calls Tryz.prog 179 #[.slice none 0 0, .int .i64 n] w fun e w' => ∃ v, e = .returned v ∧ w'.ownsRow w.heap.size 46 9 v 0 [] ∧ Below w.heap.size w w' := by
  obtain ⟨i0, hi0, hz0, hz1, hz2⟩ := info_parts Tryz.infoRecI
  rcases Nat.eq_zero_or_pos n with rfl | hpos
  · go_enter Tryz.func179, Tryz.ntmps179
    go_wp2
    go_ret
    exact ⟨_, rfl, World.ownsRow_nil w _ _ _, Below.refl _ _⟩
  · have hrz : ∀ ty, (Builtin.append_ #[27, 3] ty #[.slice none 0 0, .int .i64 (n : Int)]).run Tryz.prog w =
        .ok (.slice (some ⟨w.heap.size, 0, none⟩) n (grownCap w n 0 46)) (w.drew.alloc (.cells (#[] ++ Builtin.zeroCells (Value.agg #[.int .i64 0, .int .i64 0, .int .i64 0, .int .i64 0, .int .i64 0, .int .i64 0, .int .i64 0, .slice none 0 0, .int .i64 0]).cells n ++ Builtin.zeroCells (Value.agg #[.int .i64 0, .int .i64 0, .int .i64 0, .int .i64 0, .int .i64 0, .int .i64 0, .int .i64 0, .slice none 0 0, .int .i64 0]).cells (grownCap w n 0 46 - n)) 46)) := fun ty => by
      have h := Lib.run_append_grow_zeros w 27 3 ty 46 i0 _ .i64 .i64 Tryz.underlying27 Tryz.underlying3 hi0 hz0 none 0 0 [] (run_firstCells_none w.drew i0.size 0 0 0) n (by omega) (by omega) (by omega) (by omega)
        (by rw [hz2]; omega) (by rw [Nat.zero_add]; exact growslice_fits hpos (by rw [hz2]; omega))
      simpa using h
    have hGn := grownCap_ge w n 0 46
    have hGm := grownCap_le_maxLen w n 0 46 (by unfold maxLen; omega)
    generalize grownCap w n 0 46 = G at hrz hGn hGm
    have hG := Lib.hid hGm
    unfold maxLen at hGm
    have hp : (0 : Int) < (n : Int) := by omega
    go_enter Tryz.func179, Tryz.ntmps179
    go_wp2_with (at_builtin; refine Lib.wpList_append_run _ rfl _ _ _ _ rfl _ _ rfl rfl _ _ (hrz _) ?_)
    go_ret
    refine ⟨_, rfl, ?_, ((Below.refl _ _).drew).alloc (Nat.le_refl _) _⟩
    exact World.ownsRow_made w.drew _ G (Nat.le_refl _) hG.out (by simp [size_zeroCells]; show n * 9 + (G - n) * 9 = G * 9; omega)

set_option maxRecDepth 100000 in
set_option maxHeartbeats 1000000 in
theorem concatRec_is (q : Nat) (v v' : Value) (n n' : Nat) (xs xs' : List Value) (w : World) (hn : n + n' ≤ 2097152) (Q : Box w q 27 #[v, v']) (h : Src w v n 9 xs) (h' : Src w v' n' 9 xs') :
    Calls Tryz.prog 132 #[.slice (some ⟨q, 0, none⟩) 2 2] w fun e w' => ∃ u, e = .returned u ∧ w'.ownsRow w.heap.size 46 9 u (n + n') (xs ++ xs') ∧ Below w.heap.size w w' := by
  obtain ⟨i0, hi0, hz0, hz1, hz2⟩ := info_parts Tryz.infoRecI
  have hq := Q.lt
  obtain ⟨A, cap, hv⟩ : ∃ (A : Option Addr) (cap : Nat), v = .slice A n cap := by
    rcases h with ⟨rfl, rfl, _⟩ | ⟨ad, c, rfl, _⟩ <;> exact ⟨_, _, rfl⟩
  obtain ⟨A', cap', hv'⟩ : ∃ (A : Option Addr) (cap : Nat), v' = .slice A n' cap := by
    rcases h' with ⟨rfl, rfl, _⟩ | ⟨ad, c, rfl, _⟩ <;> exact ⟨_, _, rfl⟩
  subst hv hv'
  have HQ := Lib.hid Q
  have HS := Lib.hid h
  have HS' := Lib.hid h'
  clear Q h h'
  obtain ⟨s, hs, hs'⟩ : ∃ s : Nat, (n : Int) + (n' : Int) = (s : Int) ∧ n + n' = s := ⟨n + n', by omega, rfl⟩
  have hs' := Lib.hid hs'
  rename_i q1
  clear q1
  go_enter Tryz.func132, Tryz.ntmps132
  go_wp2_with fail
  go_loopw [3, 11] (fun sv iv wr => wr = w ∧ ((sv = .int .i64 0 ∧ iv = .int .i64 0) ∨ (sv = .int .i64 n ∧ iv = .int .i64 1) ∨ (sv = .int .i64 s ∧ iv = .int .i64 2))) (fun _ i _ => 2 - (intOf i).toNat)
  case atStart => exact ⟨rfl, .inl ⟨rfl, rfl⟩⟩
  case round =>
    obtain ⟨rfl, ⟨rfl, rfl⟩ | ⟨rfl, rfl⟩ | ⟨rfl, rfl⟩⟩ := hrel
    · obtain ⟨c0, c1⟩ := HQ.out.two
      go_wp2
      go_roundw
      case rel => exact ⟨trivial, .inr (.inl ⟨by go_num, rfl⟩)⟩
      case measure => simp [intOf]
    · obtain ⟨c0, c1⟩ := HQ.out.two
      go_wp2
      go_roundw
      case rel => exact ⟨trivial, .inr (.inr ⟨rfl, rfl⟩)⟩
      case measure => simp [intOf]
    · go_wp2_with fail
      refine (growRec_is s _ (by have := hs'.out; omega)).mono ?_
      rintro e w1 ⟨u, rfl, hown, hb⟩
      have hown1 := Lib.hid hown
      clear hown
      obtain ⟨w0, rfl⟩ : ∃ w0, w0 = wr := ⟨_, rfl⟩
      go_wp2_with fail
      go_loopw [6, 27] (fun uv iv wr => Below w0.heap.size w0 wr ∧ ((iv = .int .i64 0 ∧ wr.ownsRow w0.heap.size 46 9 uv 0 []) ∨ (iv = .int .i64 1 ∧ wr.ownsRow w0.heap.size 46 9 uv n xs) ∨ (iv = .int .i64 2 ∧ wr.ownsRow w0.heap.size 46 9 uv s (xs ++ xs')))) (fun _ i _ => 2 - (intOf i).toNat)
      case atStart => exact ⟨hb, .inl ⟨rfl, hown1.out⟩⟩
      case round =>
        obtain ⟨hbel, ⟨rfl, hown⟩ | ⟨rfl, hown⟩ | ⟨rfl, hown⟩⟩ := hrel
        · have hc := (HQ.out.later hbel HQ.out.lt |>.two)
          rcases HS.out with ⟨hv, hps, hxs⟩ | ⟨ad, c, hv, hl, hnews, hone⟩
          · injection hv with e1 e2 e3
            subst e1 e2 e3
            have hxs := Lib.hid hxs
            rename_i q1
            clear q1 hps
            go_wp2_with (at_builtin; refine wpList_append_own_none rfl _ _ _ rfl w0.heap.size 46 i0 9 Tryz.underlying27 hi0 u6 0 [] rfl hown rfl ?_)
            go_roundw
            case rel => exact ⟨hbel, .inr (.inl ⟨rfl, by rw [hxs.out]; exact hown⟩)⟩
            case measure => simp [intOf]
          · injection hv with e1 e2 e3
            subst e1 e3
            have hbs := hbel.size
            have hoL := Lib.hid hown
            have hN : ∀ j x, xs[j]? = some x → wr.cell? (ad.add j) = some x := fun j x hx => by
              have := hnews j x hx
              exact (hbel.cell (p := ad.add j) (block_lt_of_cell this)).trans this
            have HN := Lib.hid hN
            have HO := Lib.hid hone
            have HLn := Lib.hid hl
            clear hN hone hl hnews
            go_wp2_with (at_builtin; refine wpList_append_own _ rfl _ _ _ rfl w0.heap.size 46 i0 _ 9 88 Tryz.underlying27 hi0 hz0 hz1 hz2 rfl (by omega) u6 0 [] rfl hown ad n cap xs rfl HLn.out HN.out HO.out (by unfold maxLen; omega) (by omega) hbs ?_; intro u1 w2 hown2 hgrow2 _)
            have E2 := hbel.grown hgrow2 hbs (fun k hk => (hoL.out.lt k hk).1)
            have hown3 := Lib.hid hown2
            clear hown2
            go_roundw
            case rel => exact ⟨E2, .inr (.inl ⟨rfl, by simpa using hown3.out⟩)⟩
            case measure => simp [intOf]
        · have hc := (HQ.out.later hbel HQ.out.lt |>.two)
          rcases HS'.out with ⟨hv, hps, hxs⟩ | ⟨ad, c, hv, hl, hnews, hone⟩
          · injection hv with e1 e2 e3
            subst e1 e2 e3
            have hxs := Lib.hid hxs
            rename_i q1
            clear q1 hps
            go_wp2_with (at_builtin; refine wpList_append_own_none rfl _ _ _ rfl w0.heap.size 46 i0 9 Tryz.underlying27 hi0 u6 n xs rfl hown rfl ?_)
            go_roundw
            case rel => exact ⟨hbel, .inr (.inr ⟨rfl, by rw [hxs.out, List.append_nil, ← hs'.out]; exact hown⟩)⟩
            case measure => simp [intOf]
          · injection hv with e1 e2 e3
            subst e1 e3
            have hbs := hbel.size
            have hoL := Lib.hid hown
            have hN : ∀ j x, xs'[j]? = some x → wr.cell? (ad.add j) = some x := fun j x hx => by
              have := hnews j x hx
              exact (hbel.cell (p := ad.add j) (block_lt_of_cell this)).trans this
            have HN := Lib.hid hN
            have HO := Lib.hid hone
            have HLn := Lib.hid hl
            clear hN hone hl hnews
            go_wp2_with (at_builtin; refine wpList_append_own _ rfl _ _ _ rfl w0.heap.size 46 i0 _ 9 88 Tryz.underlying27 hi0 hz0 hz1 hz2 rfl (by omega) u6 n xs rfl hown ad n' cap' xs' rfl HLn.out HN.out HO.out (by unfold maxLen; omega) (by omega) hbs ?_; intro u1 w2 hown2 hgrow2 _)
            have E2 := hbel.grown hgrow2 hbs (fun k hk => (hoL.out.lt k hk).1)
            have hown3 := Lib.hid hown2
            clear hown2
            go_roundw
            case rel => exact ⟨E2, .inr (.inr ⟨rfl, by rw [← hs'.out]; exact hown3.out⟩)⟩
            case measure => simp [intOf]
        · have hown2 := Lib.hid hown
          clear hown
          go_wp2
          go_ret
          exact ⟨_, rfl, by rw [hs'.out]; exact hown2.out, hbel⟩
end Go.Proofs.YtjdepjpjjgkmbaaGreat

/- The model's copy of a list of records: each with its list in a block of its own; conditions: the sizes. -/
namespace Go.Proofs.YtjdepjpjjgkmbaaGreat
open Go Go.RowKit Go.Deep

/-- k records are copied: a row of one's own, the records' lists each in blocks of its own. -/
structure CopyK (w wr : World) (ds : List RecD) (k g cap : Nat) (ms : List (RecD × Value)) (Fs : Nat → Nat → Prop) : Prop where
  bel : Below w.heap.size w wr
  own : wr.ownsRow w.heap.size 46 9 (.slice (some ⟨g, 0, none⟩) k cap) k (flatC ms)
  map : ms.map (·.1) = ds.take k
  cert : ∀ i (h : i < ms.length), OwnP wr (Fs i) (ms[i]).2 (ms[i]).1.ps
  far : ∀ i, i < k → ∀ b, Fs i b → w.heap.size ≤ b ∧ b < wr.heap.size ∧ b ≠ g
  two : ∀ i j, i < k → j < k → i ≠ j → ∀ b, Fs i b → ¬ Fs j b
theorem CopyK.gl {w wr : World} {ds : List RecD} {k g cap : Nat} {ms : List (RecD × Value)} {Fs : Nat → Nat → Prop} (h : CopyK w wr ds k g cap ms Fs) : w.heap.size ≤ g ∧ g < wr.heap.size := h.own.lt g rfl
theorem CopyK.len {w wr : World} {ds : List RecD} {k g cap : Nat} {ms : List (RecD × Value)} {Fs : Nat → Nat → Prop} (h : CopyK w wr ds k g cap ms Fs) : ms.length = k := by
  have h1 := h.own.1
  rw [flatC_len] at h1
  omega
theorem OwnP.low {w : World} {F : Nat → Prop} {v : Value} {ps : List (Int × Int)} (h : OwnP w F v ps) : OwnP w (fun b => F b ∧ b < w.heap.size) v ps := by
  rcases h with h | ⟨g, cap, hg, e, h0, h1, hh⟩
  · exact .inl h
  · exact .inr ⟨g, cap, ⟨hg, hh.lt⟩, e, h0, h1, hh⟩
/-- The next one: its list was copied (w2), behind it it went into the row (w3). -/
theorem CopyK.next {w wr w2 w3 : World} {ds : List RecD} {k g cap g' cap' : Nat} {ms : List (RecD × Value)} {Fs : Nat → Nat → Prop} {u : Value} (h : CopyK w wr ds k g cap ms Fs) (hk : k < ds.length) (hb : Below wr.heap.size wr w2) (hu : OwnP w2 (Iv wr.heap.size w2.heap.size) u (ds[k]).ps)
    (hown : w3.ownsRow w.heap.size 46 9 (.slice (some ⟨g', 0, none⟩) (k + 1) cap') (k + 1) (flatC (ms ++ [(ds[k], u)]))) (hg : w2.grownBy w3 (some g)) (hl : g' = g ∨ w2.heap.size ≤ g') :
    CopyK w w3 ds (k + 1) g' cap' (ms ++ [(ds[k], u)]) (fun i => if i = k then Iv wr.heap.size w2.heap.size else Fs i) := by
  have hlen := h.len
  obtain ⟨g1, g2⟩ := h.gl
  have hs := hb.size
  have hs3 := hg.size
  have ht := Turns.of_grown hg
  refine ⟨bel_grown (bel_trans h.bel hb) hg g1, hown, ?_, fun i hi => ?_, fun i hi b hbi => ?_, fun i j hi hj hij b hbi hbj => ?_⟩
  · rw [List.map_append, h.map, List.take_succ_eq_append_getElem hk]
    rfl
  · rw [List.length_append, hlen] at hi
    by_cases e : i = k
    · subst e
      simp only [if_true]
      rw [List.getElem_append_right (by omega)]
      simp only [hlen, Nat.sub_self, List.getElem_cons_zero]
      exact hu.turn ht (fun b hb e => by have := hb.1; omega)
    · have hik : i < k := by simp at hi; omega
      simp only [if_neg e]
      rw [List.getElem_append_left (by omega)]
      exact (OwnP.turn (h.cert i (by omega)) (T := fun _ => False) (Turns.of_below hb) (fun _ _ h => h)).turn ht (fun b hb e => (h.far i hik b hb).2.2 e)
  · by_cases e : i = k
    · simp only [if_pos e] at hbi
      have h1 := hbi.1
      have h2 := hbi.2
      have h3 := h.bel.size
      refine ⟨by omega, by omega, ?_⟩
      omega
    · simp only [if_neg e] at hbi
      have := h.far i (by omega) b hbi
      refine ⟨this.1, by omega, by omega⟩
  · by_cases e : i = k
    · by_cases e2 : j = k
      · omega
      · simp only [if_pos e] at hbi
        simp only [if_neg e2] at hbj
        have := h.far j (by omega) b hbj
        have := hbi.1
        omega
    · simp only [if_neg e] at hbi
      by_cases e2 : j = k
      · simp only [if_pos e2] at hbj
        have := h.far i (by omega) b hbi
        have := hbj.1
        omega
      · simp only [if_neg e2] at hbj
        exact h.two i j (by omega) (by omega) hij b hbi hbj
theorem CopyK.done {w wr : World} {ds : List RecD} {g cap : Nat} {ms : List (RecD × Value)} {Fs : Nat → Nat → Prop} (h : CopyK w wr ds ds.length g cap ms Fs) : OwnCS ds wr (Iv w.heap.size wr.heap.size) (.slice (some ⟨g, 0, none⟩) ds.length cap) := by
  have hlen := h.len
  obtain ⟨g1, g2⟩ := h.gl
  have hm := h.map
  rw [List.take_length] at hm
  have hcap : ds.length ≤ cap ∧ cap ≤ maxLen := by
    rcases h.own.2 with ⟨e, _⟩ | ⟨g', c', cur, e, _, _, h1, h2, _⟩
    · cases e
    · injection e with _ _ e
      subst e
      exact ⟨h1, h2⟩
  refine .inr ⟨g, cap, Fs, ⟨g1, g2⟩, rfl, hcap.1, hcap.2, ⟨g2, fun o => ?_, fun i hi => ?_, fun i hi b hb => (h.far i hi b hb).2.2, h.two⟩, fun i hi b hb => ⟨⟨(h.far i hi b hb).1, (h.far i hi b hb).2.1⟩, (h.far i hi b hb).2.1⟩⟩
  · rcases h.own.2 with ⟨e, _⟩ | ⟨g', c', cur, e, _, hg, _⟩
    · cases e
    · injection e with e _ _
      injection e with e
      injection e with e _ _
      subst e
      simp [World.frozen?, hg]
  · obtain ⟨hi', ed⟩ := map_at hm hi
    rw [recsK_at rfl hi, ← ed]
    refine ⟨(ms[i]).2, fun j x hx => ?_, (ms[i]).2, rfl, h.cert i hi'⟩
    have hj : j < 9 := by
      have := (List.getElem?_eq_some_iff.1 hx).1
      rwa [cells_len] at this
    rw [h.own.cellAt (i * 9 + j) (by omega), flatC_at hi' hj]
    exact hx

set_option maxRecDepth 100000 in
set_option maxHeartbeats 8000000 in
theorem l10RecsK_is {ds : List RecD} {w : World} {F : Nat → Prop} {v : Value} (h : ListS ds w F v) (hs : totC ds ≤ 2097152) :
    Calls Tryz.prog 71 #[v] w fun e w' => ∃ g cap ms Fs, e = .returned (.slice (some ⟨g, 0, none⟩) ds.length cap) ∧ CopyK w w' ds ds.length g cap ms Fs := by
  obtain ⟨i0, hi0, hz0, hz1, hz2⟩ := info_parts Tryz.infoSealI
  obtain ⟨j0, hj0, hy0, hy1, hy2⟩ := info_parts Tryz.infoRecI
  have hlt := h.lt
  clear h
  have hdl : ds.length ≤ 2097152 := by have := totC_rest ds 0; rw [totC_zero] at this; omega
  obtain ⟨n, hn⟩ : ∃ n, ds.length = n := ⟨_, rfl⟩
  have HL := Lib.hid hn
  obtain ⟨A, c, e, -, -⟩ := hlt.at
  subst e
  have HV : Hid (n = 0 ∨ ∃ b o, A = some ⟨b, o, none⟩ ∧ b < w.heap.size ∧ ∃ ms : List (RecD × Value), ms.map (·.1) = ds ∧ CertsF w (· < w.heap.size) ms ∧ CellsAt w b o ms) := by
    rcases hlt with ⟨_, h0⟩ | ⟨b, o, c', e, _, _, h3, ms, hm, hc, hx⟩
    · exact .inl (by rw [← hn, h0]; rfl)
    · rcases Nat.eq_zero_or_pos n with h0 | h0
      · exact .inl h0
      · injection e with e1 _ _
        exact .inr ⟨b, o, e1, (h3 (by omega)).2, ms, hm, hc.sub (fun b hb => hb.2), hx⟩
  rw [hn] at hdl ⊢
  clear hlt hn
  have hb0 := bel_alloc w (.cells #[] 46)
  have K0 : CopyK w (w.alloc (.cells #[] 46)) ds 0 w.heap.size 0 [] (fun _ _ => False) := ⟨hb0, own_new w 46 9, by simp, fun i h => absurd h (by simp), fun i hi => absurd hi (by omega), fun i j hi => absurd hi (by omega)⟩
  go_enter Tryz.func71, Tryz.ntmps71
  go_wp2_with fail
  generalize (w.alloc _ : World) = w0 at hb0 K0 ⊢
  go_loopw [3, 4] (fun out i wr => ∃ (k g cap : Nat) (ms : List (RecD × Value)) (Fs : Nat → Nat → Prop), k ≤ n ∧ i = .int .i64 k ∧ out = .slice (some ⟨g, 0, none⟩) k cap ∧ CopyK w wr ds k g cap ms Fs) (fun _ i _ => n - (intOf i).toNat)
  case atStart => exact ⟨0, w.heap.size, 0, [], _, Nat.zero_le _, rfl, rfl, K0⟩
  case round =>
    clear K0
    obtain ⟨k, g, cap, ms, Fs, hk, rfl, rfl, K⟩ := hrel
    by_cases hlt : k < n
    · have hkd : k < ds.length := by have := HL.out; omega
      obtain h0 | ⟨b, o, hA, hbl, mx, hm, hc, hx⟩ := HV.out
      · omega
      subst hA
      obtain ⟨hi', ed⟩ := map_at hm hkd
      have hrow := flatC_row hx hi'
      have hct := hc mx[k] (List.getElem_mem hi')
      obtain ⟨L, m, mc, eu, hmm, -⟩ := hct.at
      have htc := totC_mem ds hkd
      have hnx := fun (w2 w3 : World) (g' cap' : Nat) (u : Value) => K.next (w2 := w2) (w3 := w3) (g' := g') (cap' := cap') (u := u) hkd
      rw [ed] at hrow hct
      rw [eu] at hrow hct
      obtain ⟨d, hd⟩ : ∃ d : RecD, ds[k] = d := ⟨_, rfl⟩
      rw [hd] at hrow hct htc hnx
      have NX := Lib.hid hnx
      have hT : ∀ j x, w.cell? ⟨b, j, none⟩ = some x → wr.cell? ⟨b, j, none⟩ = some x := fun j x h => (K.bel.cell (p := ⟨b, j, none⟩) hbl).trans h
      obtain ⟨c0, c1, c2, c3, c4, c5, c6, c7, c8⟩ := hrow
      replace c0 := hT _ _ c0
      replace c1 := hT _ _ c1
      replace c2 := hT _ _ c2
      replace c3 := hT _ _ c3
      replace c4 := hT _ _ c4
      replace c5 := hT _ _ c5
      replace c6 := hT _ _ c6
      replace c7 := hT _ _ c7
      replace c8 := hT _ _ c8
      have hsl := (hct.slc.later K.bel)
      have HSL := Lib.hid hsl
      have hps : d.ps.length ≤ 2097152 := by omega
      have hltI : (k : Int) < (n : Int) := by omega
      have hkw : IntKind.i64.wrap ((k : Int) + 1) = (k : Int) + 1 := IntWalk.i64_in _ (by omega)
      clear hnx hT hm hc hx hd hsl hct htc ed eu
      have ZB := Box.new wr 46 #[.int .i64 0, .int .i64 0, .int .i64 0, .int .i64 0, .int .i64 0, .int .i64 0, .int .i64 0, .slice none 0 0, .int .i64 0]
      have VX := (Box.new wr 46 #[.int .i64 0, .int .i64 0, .int .i64 0, .int .i64 0, .int .i64 0, .int .i64 0, .int .i64 0, .slice none 0 0, .int .i64 0]).setRow #[.int .i64 d.r1, .int .i64 d.r2, .int .i64 d.r3, .int .i64 d.r4, .int .i64 d.r5, .int .i64 d.r6, .int .i64 d.r7, .slice L m mc, .int .i64 d.r8]
      have hn := bel_new_row wr #[.int .i64 0, .int .i64 0, .int .i64 0, .int .i64 0, .int .i64 0, .int .i64 0, .int .i64 0, .slice none 0 0, .int .i64 0] 46 #[.int .i64 d.r1, .int .i64 d.r2, .int .i64 d.r3, .int .i64 d.r4, .int .i64 d.r5, .int .i64 d.r6, .int .i64 d.r7, .slice L m mc, .int .i64 d.r8]
      go_upto_region 6 with (refine wpList_store_row rfl 46 _ _ rfl wr.heap.size _ rfl rfl 46 #[.int .i64 0, .int .i64 0, .int .i64 0, .int .i64 0, .int .i64 0, .int .i64 0, .int .i64 0, .slice none 0 0, .int .i64 0] ZB (by kernel_rfl) rfl (by simp [Value.oneCell']) ?_)
      clear ZB c0 c1 c2 c3 c4 c5 c6 c7 c8
      try simp only [Act.put]
      generalize ((wr.alloc _).setRow _ _ : World) = w1 at VX hn ⊢
      obtain ⟨v0, v1, v2, v3, v4, v5, v6, v7, v8⟩ := VX.nine
      have hVl := VX.lt
      have hb1 := bel_alloc w1 (.cells #[] 136)
      have hown := own_new w1 136 2
      have S1 := Lib.hid ((HSL.out.later hn).later hb1).src
      have VX1 := VX.later hb1 VX.lt
      have E1 := bel_trans hn hb1
      have hbs : w1.heap.size ≤ (w1.alloc (.cells #[] 136)).heap.size := hb1.size
      go_upto_region 7 with (at_builtin; refine wpList_append_src rfl _ _ _ rfl w1.heap.size 136 i0 _ 2 16 Tryz.underlying40 hi0 hz0 hz1 hz2 rfl (by omega) (.slice (some ⟨w1.heap.size, 0, none⟩) 0 0) 0 [] rfl hown (by simp) (.slice L m mc) d.ps.length (flatP d.ps) rfl S1.out (by unfold maxLen; omega) (by omega) hbs ?_; intro g1 cap1 w2 hown1 hgrow1 hbg1 hlg1; have hR1 := hown1; rw [Nat.zero_add, List.nil_append] at hR1; have R1 := Lib.hid ((own_resP hR1).own); have hgr : (w1.alloc (.cells #[] 136)).grownBy w2 (some w1.heap.size) := hgrow1; have VX2 := VX1.kept hgr (by intro e; injection e with e; omega); have E2 := bel_grown E1 hgr (by have := hn.size; omega); obtain ⟨y0, y1, y2, y3, y4, y5, y6, y7, y8⟩ := VX2.nine; have fy := VX2.frozen; clear hown1 hgrow1 hR1)
      have R3 := R1.out.turn (turns_setCells9.turns_cell9 w2 wr.heap.size 7 (.slice (some ⟨g1, 0, none⟩) d.ps.length cap1)) (fun b hb e => by have := hb.1; have := hn.size; omega)
      have VX3 : Box (w2.setCell ⟨wr.heap.size, 7, none⟩ (.slice (some ⟨g1, 0, none⟩) d.ps.length cap1)) wr.heap.size 46 #[.int .i64 d.r1, .int .i64 d.r2, .int .i64 d.r3, .int .i64 d.r4, .int .i64 d.r5, .int .i64 d.r6, .int .i64 d.r7, .slice (some ⟨g1, 0, none⟩) d.ps.length cap1, .int .i64 d.r8] := VX2.set 7 _
      have E3 := E2.setCell (p := ⟨wr.heap.size, 7, none⟩) (Nat.le_refl _) (.slice (some ⟨g1, 0, none⟩) d.ps.length cap1)
      have hs3 : (w2.setCell ⟨wr.heap.size, 7, none⟩ (.slice (some ⟨g1, 0, none⟩) d.ps.length cap1)).heap.size = w2.heap.size := size_set _ _ _
      have hw1 : wr.heap.size ≤ w1.heap.size := hn.size
      rw [← hs3] at R3
      clear R1 VX2 E2 hgr y0 y1 y2 y3 y4 y5 y6 y7 y8 fy v0 v1 v2 v3 v4 v5 v6 v7 v8 VX VX1 hn E1 S1 hown hb1 hbs hs3 hlg1
      try simp only [Nat.zero_add]
      generalize (w2.setCell _ _ : World) = w3 at R3 VX3 E3 ⊢
      have R4 := OwnP.sub (F' := Iv wr.heap.size w3.heap.size) R3 (fun b hb => ⟨Nat.le_trans hw1 hb.1, hb.2⟩)
      have R5 := Lib.hid R4
      clear R3 R4
      have hb5 := bel_alloc w3 (.cells #[.int .i64 d.r1, .int .i64 d.r2, .int .i64 d.r3, .int .i64 d.r4, .int .i64 d.r5, .int .i64 d.r6, .int .i64 d.r7, .slice (some ⟨g1, 0, none⟩) d.ps.length cap1, .int .i64 d.r8] 46)
      have E5 := Lib.hid (bel_trans E3 hb5)
      have OWN := Lib.hid (K.own.kept (grown_bel E5.out none) (.inr (by simp [Value.ownBlock])))
      have HW := Lib.hid (Nat.le_trans K.bel.size E5.out.size)
      have R6 := Lib.hid ((OwnP.turn R5.out (T := fun _ => False) (Turns.of_below hb5) (fun _ _ h => h)).sub (F' := Iv wr.heap.size (w3.alloc (.cells #[.int .i64 d.r1, .int .i64 d.r2, .int .i64 d.r3, .int .i64 d.r4, .int .i64 d.r5, .int .i64 d.r6, .int .i64 d.r7, .slice (some ⟨g1, 0, none⟩) d.ps.length cap1, .int .i64 d.r8] 46)).heap.size) (fun b hb => ⟨hb.1, Nat.lt_of_lt_of_le hb.2 hb5.size⟩))
      have hflat : flatC [(d, .slice (some ⟨g1, 0, none⟩) d.ps.length cap1)] = (#[.int .i64 d.r1, .int .i64 d.r2, .int .i64 d.r3, .int .i64 d.r4, .int .i64 d.r5, .int .i64 d.r6, .int .i64 d.r7, .slice (some ⟨g1, 0, none⟩) d.ps.length cap1, .int .i64 d.r8] : Array Value).toList := rfl
      have NEWS := Lib.hid (show ∀ j x, (flatC [(d, .slice (some ⟨g1, 0, none⟩) d.ps.length cap1)])[j]? = some x → (w3.alloc (.cells #[.int .i64 d.r1, .int .i64 d.r2, .int .i64 d.r3, .int .i64 d.r4, .int .i64 d.r5, .int .i64 d.r6, .int .i64 d.r7, .slice (some ⟨g1, 0, none⟩) d.ps.length cap1, .int .i64 d.r8] 46)).cell? ((⟨w3.heap.size, 0, none⟩ : Addr).add j) = some x from fun j x hj => by
        rw [hflat] at hj
        rw [show (⟨w3.heap.size, 0, none⟩ : Addr).add j = ⟨w3.heap.size, j, none⟩ by unfold Addr.add; split <;> simp_all]
        rw [(Box.new w3 46 #[.int .i64 d.r1, .int .i64 d.r2, .int .i64 d.r3, .int .i64 d.r4, .int .i64 d.r5, .int .i64 d.r6, .int .i64 d.r7, .slice (some ⟨g1, 0, none⟩) d.ps.length cap1, .int .i64 d.r8]).cell j]
        simpa using hj)
      have ONE := Lib.hid (show ∀ x ∈ flatC [(d, .slice (some ⟨g1, 0, none⟩) d.ps.length cap1)], x.oneCell' = true from flatC_one (fun p hp => by rw [List.mem_singleton.1 hp]; rfl))
      clear hflat hb5 R5
      go_wp2_with (first | (refine wpList_load_box 46 _ rfl wr.heap.size rfl 46 #[.int .i64 d.r1, .int .i64 d.r2, .int .i64 d.r3, .int .i64 d.r4, .int .i64 d.r5, .int .i64 d.r6, .int .i64 d.r7, .slice (some ⟨g1, 0, none⟩) d.ps.length cap1, .int .i64 d.r8] VX3 _ Tryz.underlying46 rfl (by kernel_rfl) (by first | rfl | simp [Region.wanted, yielded] | (simp [Region.wanted, yielded, Act.put] <;> omega)) ?_) | (at_builtin; refine wpList_append_lies _ rfl _ _ _ rfl w.heap.size 46 j0 _ 9 88 Tryz.underlying27 hj0 hy0 hy1 hy2 rfl (by omega) (.slice (some ⟨g, 0, none⟩) k cap) k (flatC ms) rfl OWN.out ⟨w3.heap.size, 0, none⟩ 1 1 (flatC [(d, .slice (some ⟨g1, 0, none⟩) d.ps.length cap1)]) rfl rfl NEWS.out ONE.out (by omega) (by unfold maxLen; omega) (by omega) HW.out _ rfl ?_; intro g' cap' w5 hown5 hgrow5 hlie hlg5))
      rw [← flatC_app] at hown5
      replace hgrow5 : World.grownBy _ w5 (some g) := hgrow5
      have hlie2 : g' = g ∨ (w3.alloc (.cells #[.int .i64 d.r1, .int .i64 d.r2, .int .i64 d.r3, .int .i64 d.r4, .int .i64 d.r5, .int .i64 d.r6, .int .i64 d.r7, .slice (some ⟨g1, 0, none⟩) d.ps.length cap1, .int .i64 d.r8] 46)).heap.size ≤ g' := by
        rcases hlie with h | h
        · injection h with h
          exact .inl h.symm
        · exact .inr (by rw [h]; exact Nat.le_refl _)
      have KN := Lib.hid (NX.out _ _ _ _ _ E5.out R6.out hown5 hgrow5 hlie2)
      clear hown5 hgrow5 hlie hlie2 hlg5 E5 OWN HW R6 NEWS ONE
      go_roundw
      case rel => exact ⟨k + 1, g', cap', _, _, by omega, by go_num, rfl, KN.out⟩
      case measure => simp [intOf]; omega
    · have hkn : k = n := by omega
      subst hkn
      have HD := Lib.hid K
      clear K
      go_wp2
      go_ret
      exact ⟨g, cap, ms, Fs, rfl, HD.out⟩
theorem l10Recs_is {ds : List RecD} {w : World} {F : Nat → Prop} {v : Value} (h : ListS ds w F v) (hs : totC ds ≤ 2097152) :
    Calls Tryz.prog 71 #[v] w fun e w' => ∃ g cap, e = .returned (.slice (some ⟨g, 0, none⟩) ds.length cap) ∧ OwnCS ds w' (Iv w.heap.size w'.heap.size) (.slice (some ⟨g, 0, none⟩) ds.length cap) ∧ Below w.heap.size w w' := by
  refine (l10RecsK_is h hs).mono ?_
  rintro e w' ⟨g, cap, ms, Fs, rfl, K⟩
  exact ⟨g, cap, rfl, K.done, K.bel⟩
end Go.Proofs.YtjdepjpjjgkmbaaGreat

namespace Go.Proofs.YtjdepjpjjgkmbaaGreat
open Go Go.RowKit Go.Deep

/-- k records of a list are laid: a row of one's own, the records' lists each in blocks of its own, all behind base. -/
structure RowK (base : Nat) (wr : World) (ds : List RecD) (k g cap : Nat) (ms : List (RecD × Value)) (Fs : Nat → Nat → Prop) : Prop where
  own : wr.ownsRow base 46 9 (.slice (some ⟨g, 0, none⟩) k cap) k (flatC ms)
  map : ms.map (·.1) = ds.take k
  cert : ∀ i (h : i < ms.length), OwnP wr (Fs i) (ms[i]).2 (ms[i]).1.ps
  far : ∀ i, i < k → ∀ b, Fs i b → base ≤ b ∧ b < wr.heap.size ∧ b ≠ g
  two : ∀ i j, i < k → j < k → i ≠ j → ∀ b, Fs i b → ¬ Fs j b
theorem CopyK.row {w wr : World} {ds : List RecD} {k g cap : Nat} {ms : List (RecD × Value)} {Fs : Nat → Nat → Prop} (h : CopyK w wr ds k g cap ms Fs) : RowK w.heap.size wr ds k g cap ms Fs := ⟨h.own, h.map, h.cert, h.far, h.two⟩
theorem RowK.gl {base : Nat} {wr : World} {ds : List RecD} {k g cap : Nat} {ms : List (RecD × Value)} {Fs : Nat → Nat → Prop} (h : RowK base wr ds k g cap ms Fs) : base ≤ g ∧ g < wr.heap.size := h.own.lt g rfl
theorem RowK.len {base : Nat} {wr : World} {ds : List RecD} {k g cap : Nat} {ms : List (RecD × Value)} {Fs : Nat → Nat → Prop} (h : RowK base wr ds k g cap ms Fs) : ms.length = k := by
  have h1 := h.own.1
  rw [flatC_len] at h1
  omega
theorem RowK.turn {base : Nat} {wr w' : World} {ds : List RecD} {k g cap : Nat} {ms : List (RecD × Value)} {Fs : Nat → Nat → Prop} {T : Nat → Prop} (h : RowK base wr ds k g cap ms Fs) (ht : Turns T wr w') (hT : ∀ b, T b → b < base) : RowK base w' ds k g cap ms Fs := by
  obtain ⟨g1, g2⟩ := h.gl
  refine ⟨⟨h.own.1, ?_⟩, h.map, fun i hi => (h.cert i hi).turn ht (fun b hb hb2 => by have := hT b hb2; have := (h.far i (by rw [h.len] at hi; exact hi) b hb).1; omega), fun i hi b hb => ⟨(h.far i hi b hb).1, Nat.lt_of_lt_of_le (h.far i hi b hb).2.1 ht.size, (h.far i hi b hb).2.2⟩, h.two⟩
  rcases h.own.2 with ⟨e, _⟩ | ⟨g', cap', cur, e, hb, hg, h1, h2, h3, h4⟩
  · cases e
  · injection e with e1 _ e3
    injection e1 with e1
    injection e1 with e1 _ _
    subst e1 e3
    exact .inr ⟨g, cap, cur, rfl, hb, (ht.block g g2 (fun hb => by have := hT g hb; omega)).trans hg, h1, h2, h3, h4⟩
theorem RowK.later {base : Nat} {wr w' : World} {ds : List RecD} {k g cap : Nat} {ms : List (RecD × Value)} {Fs : Nat → Nat → Prop} (h : RowK base wr ds k g cap ms Fs) (hb : Below wr.heap.size wr w') : RowK base w' ds k g cap ms Fs := h.turn (T := fun _ => False) (Turns.of_below hb) (fun _ h => h.elim)
theorem RowK.more {base : Nat} {wr : World} {ds : List RecD} {g cap : Nat} {ms : List (RecD × Value)} {Fs : Nat → Nat → Prop} (h : RowK base wr ds ds.length g cap ms Fs) (es : List RecD) : RowK base wr (ds ++ es) ds.length g cap ms Fs :=
  ⟨h.own, by rw [h.map, List.take_length, List.take_left], h.cert, h.far, h.two⟩
/-- The next one: its list was copied (w2), behind it it went into the row (w3). -/
theorem RowK.next {base : Nat} {wr w2 w3 : World} {ds : List RecD} {k g cap g' cap' : Nat} {ms : List (RecD × Value)} {Fs : Nat → Nat → Prop} {u : Value} (h : RowK base wr ds k g cap ms Fs) (hk : k < ds.length) (hb : Below wr.heap.size wr w2) (hu : OwnP w2 (Iv wr.heap.size w2.heap.size) u (ds[k]).ps)
    (hown : w3.ownsRow base 46 9 (.slice (some ⟨g', 0, none⟩) (k + 1) cap') (k + 1) (flatC (ms ++ [(ds[k], u)]))) (hg : w2.grownBy w3 (some g)) (hl : g' = g ∨ w2.heap.size ≤ g') :
    RowK base w3 ds (k + 1) g' cap' (ms ++ [(ds[k], u)]) (fun i => if i = k then Iv wr.heap.size w2.heap.size else Fs i) := by
  have hlen := h.len
  obtain ⟨g1, g2⟩ := h.gl
  have hs := hb.size
  have hs3 := hg.size
  have ht := Turns.of_grown hg
  refine ⟨hown, ?_, fun i hi => ?_, fun i hi b hbi => ?_, fun i j hi hj hij b hbi hbj => ?_⟩
  · rw [List.map_append, h.map, List.take_succ_eq_append_getElem hk]
    rfl
  · rw [List.length_append, hlen] at hi
    by_cases e : i = k
    · subst e
      simp only [if_true]
      rw [List.getElem_append_right (by omega)]
      simp only [hlen, Nat.sub_self, List.getElem_cons_zero]
      exact hu.turn ht (fun b hb e => by have := hb.1; omega)
    · have hik : i < k := by simp at hi; omega
      simp only [if_neg e]
      rw [List.getElem_append_left (by omega)]
      exact (OwnP.turn (h.cert i (by omega)) (T := fun _ => False) (Turns.of_below hb) (fun _ _ h => h)).turn ht (fun b hb e => (h.far i hik b hb).2.2 e)
  · by_cases e : i = k
    · simp only [if_pos e] at hbi
      have h1 := hbi.1
      have h2 := hbi.2
      refine ⟨by omega, by omega, ?_⟩
      omega
    · simp only [if_neg e] at hbi
      have := h.far i (by omega) b hbi
      refine ⟨this.1, by omega, by omega⟩
  · by_cases e : i = k
    · by_cases e2 : j = k
      · omega
      · simp only [if_pos e] at hbi
        simp only [if_neg e2] at hbj
        have := h.far j (by omega) b hbj
        have := hbi.1
        omega
    · simp only [if_neg e] at hbi
      by_cases e2 : j = k
      · simp only [if_pos e2] at hbj
        have := h.far i (by omega) b hbi
        have := hbj.1
        omega
      · simp only [if_neg e2] at hbj
        exact h.two i j (by omega) (by omega) hij b hbi hbj
theorem RowK.done {base : Nat} {wr : World} {ds : List RecD} {g cap : Nat} {ms : List (RecD × Value)} {Fs : Nat → Nat → Prop} (h : RowK base wr ds ds.length g cap ms Fs) : OwnCS ds wr (Iv base wr.heap.size) (.slice (some ⟨g, 0, none⟩) ds.length cap) := by
  have hlen := h.len
  obtain ⟨g1, g2⟩ := h.gl
  have hm := h.map
  rw [List.take_length] at hm
  have hcap : ds.length ≤ cap ∧ cap ≤ maxLen := by
    rcases h.own.2 with ⟨e, _⟩ | ⟨g', c', cur, e, _, _, h1, h2, _⟩
    · cases e
    · injection e with _ _ e
      subst e
      exact ⟨h1, h2⟩
  refine .inr ⟨g, cap, Fs, ⟨g1, g2⟩, rfl, hcap.1, hcap.2, ⟨g2, fun o => ?_, fun i hi => ?_, fun i hi b hb => (h.far i hi b hb).2.2, h.two⟩, fun i hi b hb => ⟨⟨(h.far i hi b hb).1, (h.far i hi b hb).2.1⟩, (h.far i hi b hb).2.1⟩⟩
  · rcases h.own.2 with ⟨e, _⟩ | ⟨g', c', cur, e, _, hg, _⟩
    · cases e
    · injection e with e _ _
      injection e with e
      injection e with e _ _
      subst e
      simp [World.frozen?, hg]
  · obtain ⟨hi', ed⟩ := map_at hm hi
    rw [recsK_at rfl hi, ← ed]
    refine ⟨(ms[i]).2, fun j x hx => ?_, (ms[i]).2, rfl, h.cert i hi'⟩
    have hj : j < 9 := by
      have := (List.getElem?_eq_some_iff.1 hx).1
      rwa [cells_len] at this
    rw [h.own.cellAt (i * 9 + j) (by omega), flatC_at hi' hj]
    exact hx

end Go.Proofs.YtjdepjpjjgkmbaaGreat
