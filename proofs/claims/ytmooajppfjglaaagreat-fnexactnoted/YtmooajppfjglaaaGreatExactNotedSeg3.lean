/- Rows stored and loaded whole inside a fence; a list of records with its lists named; what a function's iterator is handed; no conditions. -/
import Derived.Test.YtmooajppfjglaaaGreatExactNotedSeg2
import Derived.Test.YtmooajppfjglaaaGreatExactNotedSeg1
import Derived.Test.YtmooajppfjglaaaGreatExactNotedSeg0
import Derived.Deep.MidRow
import Derived.Deep.Slices
import Derived.Lib.AppendZerosOnto
import Derived.Laws.AppendOwnNone
import Derived.OrdersIn
import Derived.RangeFuncNested
import Derived.RangeFuncBound
import Derived.RangeFuncCalls
import Derived.RangeFuncLeaves
import Derived.Shelf.Abstract
import Derived.Shelf.RegionOpen
import Derived.WalkKit
import Derived.OwnWalkIn
import Derived.TacticsInMore
import Derived.LoopNIn
import Derived.LoopIn
import Derived.Sort.CutIn

/- The model's ProvenOk: its contract; up to some four million seals. -/
namespace Go.Proofs.YtmooajppfjglaaaGreat
open Go.RowKit

set_option maxRecDepth 100000 in
set_option maxHeartbeats 2000000 in
theorem specProven_is (s l c sh : Int) (A : Option Addr) (n cap : Nat) (zs : List Int) (x ct cq v : Int) (P : Option Addr) (m pcap : Nat) (ps : List (Int × Int)) (w : World) (hm : n ≤ maxLen) (hr : Row w w.heap.size A n zs) (hn : m ≤ 4194304) (h : Pairs w w.heap.size P m ps) :
    Calls Tryz.prog 146 #[.agg #[.int .i64 s, .int .i64 l, .int .i64 c, .int .i64 sh, .slice A n cap], .int .i64 x, .agg #[.int .i64 ct, .int .i64 cq], .int .i64 v, .slice P m pcap] w fun e w' => e = .returned (.bool (proB s l c sh zs x ct cq v ps)) ∧ Below w.heap.size w w' := by
  rw [proB_eq]
  have E0 := bel_trans (bel_alloc w (.cells #[.int .i64 s, .int .i64 l, .int .i64 c, .int .i64 sh, .slice A n cap] 26)) (bel_alloc _ (.cells #[.int .i64 ct, .int .i64 cq] 36))
  have DG := (Box.new w 26 #[.int .i64 s, .int .i64 l, .int .i64 c, .int .i64 sh, .slice A n cap]).alloc (.cells #[.int .i64 ct, .int .i64 cq] 36)
  have DT := Box.new (w.alloc (.cells #[.int .i64 s, .int .i64 l, .int .i64 c, .int .i64 sh, .slice A n cap] 26)) 36 #[.int .i64 ct, .int .i64 cq]
  simp only [World.size_alloc] at DT
  have HR := Lib.hid ((hr.below E0 (Nat.le_refl _)).more E0.size)
  have HM := Lib.hid hm
  have HP := Lib.hid (h.later E0)
  have hN := Lib.hid hn
  clear h hr hm
  obtain ⟨d0, d1, d2, d3, d4⟩ := DG.five
  go_enter Tryz.func146, Tryz.ntmps146
  go_wp2_with fail
  generalize ((w.alloc _).alloc _ : World) = w1 at E0 DG DT HR HP d0 d1 d2 d3 d4 ⊢
  rcases hok : okB s l c sh zs with _ | _
  · have hs := Lib.hid (show shfB s l c sh zs x = false by simp [shfB, hok])
    have HO := Lib.hid hok
    clear hok
    refine (specGroupB_is HO.out A n cap w1 HM.out HR.out).mono ?_
    rintro e w2 ⟨rfl, hb2⟩
    have E2 := bel_trans E0 hb2
    go_wp2
    go_ret
    exact ⟨by rw [hs.out]; rfl, E2⟩
  · have hsh := okB_sh hok
    have hs := Lib.hid (show shfB s l c sh zs x = inB x 0 (sh - 1) by simp [shfB, hok])
    have HO := Lib.hid hok
    clear hok
    refine (specGroupB_is HO.out A n cap w1 HM.out HR.out).mono ?_
    rintro e w2 ⟨rfl, hb2⟩
    have E2 := bel_trans E0 hb2
    have DG2 := DG.later hb2 DG.lt
    have DT2 := DT.later hb2 DT.lt
    have HR2 := Lib.hid ((HR.out.below hb2 (Nat.le_refl _)).more hb2.size)
    have HP2 := Lib.hid (HP.out.later hb2)
    clear d0 d1 d2 d3 d4 DG DT HR HP hb2 E0
    obtain ⟨d0, d1, d2, d3, d4⟩ := DG2.five
    obtain ⟨f0, f1, f2, f3, f4⟩ := fiveAfter DG2
    obtain ⟨t0, t1⟩ := DT2.two
    have f5 := After.cell (by exact DT2.lt) t0
    have f6 := After.cell (by exact DT2.lt) t1
    rcases hin : inB x 0 (sh - 1) with _ | _
    · have HI := Lib.hid hin
      go_wp2_with (go_at_call 111; refine (l1In_any _ _ _ _).mono ?_; rintro e w' ⟨rfl, rfl⟩)
      go_ret
      exact ⟨by rw [hs.out, HI.out]; rfl, E2⟩
    · have HI := Lib.hid hin
      rcases hc : cerB s l c sh zs 1 x ct cq v ps with _ | _
      all_goals (
        have HC := Lib.hid hc
        clear hc
        rcases nil_cases ct cq v with ⟨rfl, rfl, rfl, hnil⟩ | ⟨hnil, hcase⟩
        · have HNL := Lib.hid hnil
          clear hnil
          go_wp2_with (go_at_call 111; refine (l1In_any _ _ _ _).mono ?_; rintro e w' ⟨rfl, rfl⟩)
          refine wp_region_after (by kernel_rfl) (by kernel_rfl) ?_
          repeat (first | go_big_quiet_step ((go_at_call 113; exact after_of (l4Zero_yes _))) | quiet_step ((go_at_call 113; exact after_of (l4Zero_yes _))))
          refine wpQuiet_nil ?_
          intro pw
          go_wp2
          go_ret
          exact ⟨by rw [hs.out, HI.out, HNL.out]; rfl, bel_trans E2 pw.bel⟩
        · have HNL := Lib.hid hnil
          clear hnil
          rcases hcase with h1 | ⟨h1, h2⟩ | ⟨rfl, rfl, h2⟩
          · go_wp2_with (go_at_call 111; refine (l1In_any _ _ _ _).mono ?_; rintro e w' ⟨rfl, rfl⟩)
            refine wp_region_after (by kernel_rfl) (by kernel_rfl) ?_
            repeat (first | go_big_quiet_step (first | (go_at_call 113; exact after_of (l4Zero_no ct cq (.inl h1) _)) | (go_at_call 124; exact after_of (l4Ready_is x ct cq v _)) | (go_at_call 164; exact after_of (specCertB_is HC.out _ n cap _ m pcap _ HM.out (rowAfter HR2.out _) hN.out (pairsAfter HP2.out _)))) | quiet_step (first | (go_at_call 113; exact after_of (l4Zero_no ct cq (.inl h1) _)) | (go_at_call 124; exact after_of (l4Ready_is x ct cq v _)) | (go_at_call 164; exact after_of (specCertB_is HC.out _ n cap _ m pcap _ HM.out (rowAfter HR2.out _) hN.out (pairsAfter HP2.out _)))))
            refine wpQuiet_nil ?_
            intro pw
            go_wp2
            go_ret
            exact ⟨by rw [hs.out, HI.out, HNL.out, HC.out]; rfl, bel_trans E2 pw.bel⟩
          · go_wp2_with (go_at_call 111; refine (l1In_any _ _ _ _).mono ?_; rintro e w' ⟨rfl, rfl⟩)
            refine wp_region_after (by kernel_rfl) (by kernel_rfl) ?_
            repeat (first | go_big_quiet_step (first | (go_at_call 113; exact after_of (l4Zero_no ct cq (.inr ⟨h1, h2⟩) _)) | (go_at_call 124; exact after_of (l4Ready_is x ct cq v _)) | (go_at_call 164; exact after_of (specCertB_is HC.out _ n cap _ m pcap _ HM.out (rowAfter HR2.out _) hN.out (pairsAfter HP2.out _)))) | quiet_step (first | (go_at_call 113; exact after_of (l4Zero_no ct cq (.inr ⟨h1, h2⟩) _)) | (go_at_call 124; exact after_of (l4Ready_is x ct cq v _)) | (go_at_call 164; exact after_of (specCertB_is HC.out _ n cap _ m pcap _ HM.out (rowAfter HR2.out _) hN.out (pairsAfter HP2.out _)))))
            refine wpQuiet_nil ?_
            intro pw
            go_wp2
            go_ret
            exact ⟨by rw [hs.out, HI.out, HNL.out, HC.out]; rfl, bel_trans E2 pw.bel⟩
          · go_wp2_with (go_at_call 111; refine (l1In_any _ _ _ _).mono ?_; rintro e w' ⟨rfl, rfl⟩)
            refine wp_region_after (by kernel_rfl) (by kernel_rfl) ?_
            repeat (first | go_big_quiet_step (first | (go_at_call 113; exact after_of (l4Zero_yes _)) | (go_at_call 124; exact after_of (l4Ready_is x 0 0 v _)) | (go_at_call 164; exact after_of (specCertB_is HC.out _ n cap _ m pcap _ HM.out (rowAfter HR2.out _) hN.out (pairsAfter HP2.out _)))) | quiet_step (first | (go_at_call 113; exact after_of (l4Zero_yes _)) | (go_at_call 124; exact after_of (l4Ready_is x 0 0 v _)) | (go_at_call 164; exact after_of (specCertB_is HC.out _ n cap _ m pcap _ HM.out (rowAfter HR2.out _) hN.out (pairsAfter HP2.out _)))))
            refine wpQuiet_nil ?_
            intro pw
            go_wp2
            go_ret
            exact ⟨by rw [hs.out, HI.out, HNL.out, HC.out]; rfl, bel_trans E2 pw.bel⟩)

end Go.Proofs.YtmooajppfjglaaaGreat

/- The model's functions of shelves, second part: a shelf that is right: contracts of each of them. -/
namespace Go.Proofs.YtmooajppfjglaaaGreat
open Go.RowKit

theorem sevenGD {w : World} {g g' : Nat} {t t' : TypeId} {v0 v1 v2 v3 v4 u0 u1 : Value} (h : Box w g t #[v0, v1, v2, v3, v4]) (h' : Box w g' t' #[u0, u1]) :
    w.cell? ⟨g, 0, none⟩ = some v0 ∧ w.cell? ⟨g, 1, none⟩ = some v1 ∧ w.cell? ⟨g, 2, none⟩ = some v2 ∧ w.cell? ⟨g, 3, none⟩ = some v3 ∧ w.cell? ⟨g, 4, none⟩ = some v4 ∧ w.cell? ⟨g', 0, none⟩ = some u0 ∧ w.cell? ⟨g', 1, none⟩ = some u1 :=
  ⟨h.cell 0, h.cell 1, h.cell 2, h.cell 3, h.cell 4, h'.cell 0, h'.cell 1⟩
/-- What a certificate tells: its stamp and value are right, and it has a seal. -/
theorem cer_parts {s l c sh : Int} {zs : List Int} {x ct cq v : Int} {ps : List (Int × Int)} (h : cerB s l c sh zs 1 x ct cq v ps = true) : stB ct cq = true ∧ valB v = true ∧ ps ≠ [] := by
  unfold cerB at h
  simp only [Bool.and_eq_true, decide_eq_true_eq] at h
  obtain ⟨⟨hok, _⟩, hq⟩ := h
  have hb := okB_parts hok
  have hq1 : 1 ≤ quoN s l c sh zs := by unfold quoN; rw [if_pos hok]; omega
  have hc : 1 ≤ (goodP (rB s l c sh zs 1 x ct cq v) ps).length := by
    unfold cntN at hq
    omega
  have hle : (goodP (rB s l c sh zs 1 x ct cq v) ps).length ≤ (ps.filter (rB s l c sh zs 1 x ct cq v)).length := puts_le _
  obtain ⟨p, hp⟩ := List.exists_mem_of_length_pos (l := ps.filter (rB s l c sh zs 1 x ct cq v)) (by omega)
  rw [List.mem_filter] at hp
  have hr := hp.2
  simp only [rB, riB, seB, clB, Bool.and_eq_true] at hr
  refine ⟨hr.1.1.1.2, hr.1.1.2, fun e => ?_⟩
  rw [e] at hp
  exact absurd hp.1 (by simp)
/-- The model's spelling of it. -/
def spcB (s l c sh : Int) (zs : List Int) (x ct cq v : Int) (ps : List (Int × Int)) : Bool := stB ct cq && valB v && proB s l c sh zs x ct cq v ps && (if ct = 0 ∧ cq = 0 then decide (v = 0) && decide (ps = []) else decide (ps = goodP (rB s l c sh zs 1 x ct cq v) ps))
theorem lefB_spec (s l c sh : Int) (zs : List Int) (x ct cq v : Int) (ps : List (Int × Int)) : spcB s l c sh zs x ct cq v ps = lefB s l c sh zs x ct cq v ps := by
  unfold lefB spcB
  rcases hp : proB s l c sh zs x ct cq v ps with _ | _
  · simp
  · have hp' := hp
    rw [proB_eq, Bool.and_eq_true, Bool.or_eq_true] at hp'
    rcases hp'.2 with hn | hc
    · have : ct = 0 ∧ cq = 0 ∧ v = 0 := by
        rcases nil_cases ct cq v with ⟨h1, h2, h3, _⟩ | ⟨h, _⟩
        · exact ⟨h1, h2, h3⟩
        · rw [h] at hn; cases hn
      obtain ⟨rfl, rfl, rfl⟩ := this
      simp [stB_00, lefS, valB, inB]
    · obtain ⟨h1, h2, h3⟩ := cer_parts hc
      rw [h1, h2]
      unfold lefS
      by_cases hz : ct = 0 ∧ cq = 0
      · rw [if_pos hz, if_pos hz]
        simp [h3]
      · rw [if_neg hz, if_neg hz]
        rfl

theorem specValR_is {x : Int} {b : Bool} (h : valB x = b) (w : World) : Calls Tryz.prog 145 #[.int .i64 x] w fun e w' => e = .returned (.bool b) ∧ w = w' := by
  subst h
  go_enter Tryz.func145, Tryz.ntmps145
  go_wp2_with (go_at_call 111; refine (l1In_any _ _ _ _).mono ?_; rintro e w' ⟨rfl, rfl⟩)
  go_ret
  exact ⟨rfl, rfl⟩
theorem specClientR_is {s l c sh : Int} {zs : List Int} {x : Int} {b : Bool} (h : cliB s l c sh zs x = b) (A : Option Addr) (n cap : Nat) (w : World) (hm : n ≤ maxLen) (hr : Row w w.heap.size A n zs) :
    Calls Tryz.prog 143 #[.agg #[.int .i64 s, .int .i64 l, .int .i64 c, .int .i64 sh, .slice A n cap], .int .i64 x] w fun e w' => e = .returned (.bool b) ∧ Below w.heap.size w w' := h ▸ specClient_any s l c sh A n cap zs x w hm hr
theorem specStampR_is {c k : Int} {b : Bool} (h : stB c k = b) (w : World) : Calls Tryz.prog 144 #[.agg #[.int .i64 c, .int .i64 k]] w fun e w' => e = .returned (.bool b) ∧ Below w.heap.size w w' := h ▸ specStampOk_any c k w
theorem specProvenR_is {s l c sh : Int} {zs : List Int} {x ct cq v : Int} {ps : List (Int × Int)} {b : Bool} (hb : proB s l c sh zs x ct cq v ps = b) (A : Option Addr) (n cap : Nat) (P : Option Addr) (m pcap : Nat) (w : World) (hm : n ≤ maxLen) (hr : Row w w.heap.size A n zs) (hn : m ≤ 4194304) (h : Pairs w w.heap.size P m ps) :
    Calls Tryz.prog 146 #[.agg #[.int .i64 s, .int .i64 l, .int .i64 c, .int .i64 sh, .slice A n cap], .int .i64 x, .agg #[.int .i64 ct, .int .i64 cq], .int .i64 v, .slice P m pcap] w fun e w' => e = .returned (.bool b) ∧ Below w.heap.size w w' := hb ▸ specProven_is s l c sh A n cap zs x ct cq v P m pcap ps w hm hr hn h

set_option maxHeartbeats 1000000 in
theorem l7Open_is (s l c sh : Int) (A : Option Addr) (n cap : Nat) (zs : List Int) (k t y v : Int) (w : World) (hm : n ≤ maxLen) (hr : Row w w.heap.size A n zs) :
    Calls Tryz.prog 112 #[.agg #[.int .i64 s, .int .i64 l, .int .i64 c, .int .i64 sh, .slice A n cap], .agg #[.int .i64 k, .int .i64 t, .int .i64 y, .int .i64 v]] w fun e w' => e = .returned (.bool (opnB s l c sh zs (k, t, y, v))) ∧ Below w.heap.size w w' := by
  have D := Box.new (w.alloc (.cells #[.int .i64 s, .int .i64 l, .int .i64 c, .int .i64 sh, .slice A n cap] 26)) 105 #[.int .i64 k, .int .i64 t, .int .i64 y, .int .i64 v]
  have E := bel_trans (bel_alloc w (.cells #[.int .i64 s, .int .i64 l, .int .i64 c, .int .i64 sh, .slice A n cap] 26)) (bel_alloc _ (.cells #[.int .i64 k, .int .i64 t, .int .i64 y, .int .i64 v] 105))
  simp only [World.size_alloc] at D
  have HR := Lib.hid ((hr.below E (Nat.le_refl _)).more E.size)
  have HM := Lib.hid hm
  clear hr hm
  rcases hcl : cliB s l c sh zs k with _ | _
  · have HV := Lib.hid (opn_1 (t := t) (y := y) (v := v) hcl)
    have HC := Lib.hid hcl
    clear hcl
    go_enter Tryz.func112, Tryz.ntmps112
    go_wp2_with fail
    generalize ((w.alloc _).alloc _ : World) = w0 at D E HR ⊢
    refine (specClientR_is HC.out A n cap w0 HM.out HR.out).mono ?_
    rintro e w1 ⟨rfl, hb1⟩
    go_wp2
    go_ret
    exact ⟨by rw [HV.out]; rfl, bel_trans E hb1⟩
  · have HC := Lib.hid hcl
    clear hcl
    go_enter Tryz.func112, Tryz.ntmps112
    go_wp2_with fail
    generalize ((w.alloc _).alloc _ : World) = w0 at D E HR ⊢
    refine (specClientR_is HC.out A n cap w0 HM.out HR.out).mono ?_
    rintro e w1 ⟨rfl, hb1⟩
    have D1 := D.later hb1 D.lt
    have E1 := bel_trans E hb1
    clear D E HR hb1
    obtain ⟨d0, d1, d2, d3⟩ := D1.four
    rcases h4 : stB t y with _ | _
    · have HV := Lib.hid (opn_4 (s := s) (l := l) (c := c) (sh := sh) (zs := zs) (k := k) (v := v) h4)
      have H4 := Lib.hid h4
      clear h4
      go_wp2_with (go_at_call 144; refine (specStampR_is H4.out _).mono ?_; rintro e w2 ⟨rfl, hb2⟩; have E2 := bel_trans E1 hb2)
      go_ret
      exact ⟨by rw [HV.out]; rfl, E2⟩
    · have H4 := Lib.hid h4
      go_wp2_with fail
      refine (specStampR_is H4.out w1).mono ?_
      rintro e w2 ⟨rfl, hb2⟩
      have E2 := bel_trans E1 hb2
      have D2 := D1.later hb2 D1.lt
      clear D1 E1 hb2 d0 d1 d2 d3
      obtain ⟨d0, d1, d2, d3⟩ := D2.four
      by_cases h3 : 1 ≤ t
      · have h3' : 0 < t := by omega
        by_cases h2 : y = k
        · subst h2
          have HV := Lib.hid (opn_5 (v := v) HC.out h3 h4)
          clear h4
          rcases h5 : valB v with _ | _
          all_goals
            have H5 := Lib.hid h5
            clear h5
            go_wp2_with (go_at_call 145; refine (specValR_is H5.out _).mono ?_; rintro e w3 ⟨rfl, rfl⟩)
            go_ret
            exact ⟨by rw [HV.out, H5.out]; rfl, E2⟩
        · have h2' : (y == k) = false := by simpa using h2
          have HV := Lib.hid (opn_2 (s := s) (l := l) (c := c) (sh := sh) (zs := zs) (t := t) (v := v) h2)
          clear h4
          go_wp2
          go_ret
          exact ⟨by rw [HV.out]; rfl, E2⟩
      · have h3' : ¬ 0 < t := by omega
        have HV := Lib.hid (opn_3 (s := s) (l := l) (c := c) (sh := sh) (zs := zs) (k := k) (y := y) (v := v) h3)
        clear h4
        go_wp2
        go_ret
        exact ⟨by rw [HV.out]; rfl, E2⟩
theorem l7OpenB_is {s l c sh : Int} {zs : List Int} {k t y v : Int} {b : Bool} (h : opnB s l c sh zs (k, t, y, v) = b) (A : Option Addr) (n cap : Nat) (w : World) (hm : n ≤ maxLen) (hr : Row w w.heap.size A n zs) :
    Calls Tryz.prog 112 #[.agg #[.int .i64 s, .int .i64 l, .int .i64 c, .int .i64 sh, .slice A n cap], .agg #[.int .i64 k, .int .i64 t, .int .i64 y, .int .i64 v]] w fun e w' => e = .returned (.bool b) ∧ Below w.heap.size w w' := h ▸ l7Open_is s l c sh A n cap zs k t y v w hm hr

set_option maxHeartbeats 2000000 in
theorem l7Like_is (A A' : Option Addr) (n cap n' cap' : Nat) (ps qs : List (Int × Int)) (w : World) (hm : n ≤ 4194304) (hm' : n' ≤ 4194304) (hr : Pairs w w.heap.size A n ps) (hr' : Pairs w w.heap.size A' n' qs) :
    Calls Tryz.prog 147 #[.slice A n cap, .slice A' n' cap'] w fun e w' => e = .returned (.bool (decide (ps = qs))) ∧ Below w.heap.size w w' := by
  by_cases hnn : n = n'
  · subst hnn
    have HL := Lib.hid hr.1
    have HL' := Lib.hid hr'.1
    have HR := Lib.hid hr
    have HR' := Lib.hid hr'
    clear hr hr'
    go_enter Tryz.func147, Tryz.ntmps147
    go_wp2_with fail
    go_loopw [5] (fun i wr => ∃ k : Nat, k ≤ n ∧ i = .int .i64 k ∧ (∀ j, j < k → pth ps j = pth qs j) ∧ Below w.heap.size w wr) (fun i _ => n - (intOf i).toNat)
    case atStart => exact ⟨0, Nat.zero_le _, rfl, fun j hj => absurd hj (by omega), Below.refl _ _⟩
    case round =>
      obtain ⟨k, hk, rfl, heq, hb⟩ := hrel
      by_cases hlt : k < n
      · obtain ⟨b, o, hA, hbB, hcell⟩ := HR.out.2 (by omega)
        obtain ⟨b', o', hA', hbB', hcell'⟩ := HR'.out.2 (by omega)
        subst hA hA'
        obtain ⟨g0, g1⟩ := hcell k hlt
        obtain ⟨h0, h1⟩ := hcell' k hlt
        have hz := hb.size
        have g0 := After.cell (w := wr) (a := ⟨b, o + k * 2, none⟩) (by simp; omega) ((hb.cell (p := ⟨b, o + k * 2, none⟩) hbB).trans g0)
        have g1 := After.cell (w := wr) (a := ⟨b, o + k * 2 + 1, none⟩) (by simp; omega) ((hb.cell (p := ⟨b, o + k * 2 + 1, none⟩) hbB).trans g1)
        have h0 := After.cell (w := wr) (a := ⟨b', o' + k * 2, none⟩) (by simp; omega) ((hb.cell (p := ⟨b', o' + k * 2, none⟩) hbB').trans h0)
        have h1 := After.cell (w := wr) (a := ⟨b', o' + k * 2 + 1, none⟩) (by simp; omega) ((hb.cell (p := ⟨b', o' + k * 2 + 1, none⟩) hbB').trans h1)
        generalize hx : pth ps k = x at g0 g1
        generalize hy : pth qs k = y at h0 h1
        obtain ⟨x, x'⟩ := x
        obtain ⟨y, y'⟩ := y
        have HX := Lib.hid hx
        have HY := Lib.hid hy
        replace heq := Lib.hid heq
        have hlt' : (k : Int) < (n : Int) := by omega
        clear hcell hcell' hx hy
        by_cases e1 : x = y
        · subst e1
          by_cases e2 : x' = y'
          · subst e2
            have hst := Lib.hid (show ∀ j, j < k + 1 → pth ps j = pth qs j from fun j hj => by
              by_cases ej : j = k
              · subst ej; rw [HX.out, HY.out]
              · exact heq.out j (by omega))
            go_wp2_with fail
            refine wp_region_after (by kernel_rfl) (by kernel_rfl) ?_
            repeat (first | go_big_quiet_step (fail) | quiet_step (fail))
            refine wpQuiet_nil ?_
            intro pw
            have E3 := bel_trans hb pw.bel
            go_wp2
            go_roundw
            case rel => exact ⟨k + 1, by omega, by go_num, hst.out, E3⟩
            case measure => simp [intOf]; omega
          · have e2' : (x' == y') = false := by simpa using e2
            have HF : Hid (decide (ps = qs) = false) := Lib.hid (decide_eq_false fun h => e2 (by have a := HX.out; rw [h, HY.out] at a; injection a with _ a; exact a.symm))
            go_wp2_with fail
            refine wp_region_after (by kernel_rfl) (by kernel_rfl) ?_
            repeat (first | go_big_quiet_step (fail) | quiet_step (fail))
            refine wpQuiet_nil ?_
            intro pw
            have E3 := bel_trans hb pw.bel
            go_wp2
            go_ret
            exact ⟨by rw [HF.out]; rfl, E3⟩
        · have e1' : (x == y) = false := by simpa using e1
          have HF : Hid (decide (ps = qs) = false) := Lib.hid (decide_eq_false fun h => e1 (by have a := HX.out; rw [h, HY.out] at a; injection a with a _; exact a.symm))
          go_wp2_with fail
          refine wp_region_after (by kernel_rfl) (by kernel_rfl) ?_
          repeat (first | go_big_quiet_step (fail) | quiet_step (fail))
          refine wpQuiet_nil ?_
          intro pw
          have E3 := bel_trans hb pw.bel
          go_wp2
          go_ret
          exact ⟨by rw [HF.out]; rfl, E3⟩
      · obtain rfl : k = n := by omega
        have HF : Hid (decide (ps = qs) = true) := Lib.hid (decide_eq_true (pth_ext (by rw [HL.out, HL'.out]) fun j hj => heq j (by rw [← HL.out]; exact hj)))
        replace heq := Lib.hid heq
        go_wp2
        go_ret
        exact ⟨by rw [HF.out]; rfl, hb⟩
  · have hne : ((n : Int) != (n' : Int)) = true := by simp; omega
    have HF : Hid (decide (ps = qs) = false) := Lib.hid (decide_eq_false fun h => hnn (by rw [← hr.1, ← hr'.1, h]))
    clear hr hr'
    go_enter Tryz.func147, Tryz.ntmps147
    go_wp2
    go_ret
    exact ⟨by rw [HF.out]; rfl, Below.refl _ _⟩


set_option maxRecDepth 100000 in
set_option maxHeartbeats 2000000 in
theorem l7Proven_is (s l c sh : Int) (A : Option Addr) (n cap : Nat) (zs : List Int) (x ct cq v : Int) (P : Option Addr) (m pcap : Nat) (ps : List (Int × Int)) (w : World) (hm : n ≤ maxLen) (hr : Row w w.heap.size A n zs) (hn : m ≤ 4194304) (h : Pairs w w.heap.size P m ps) :
    Calls Tryz.prog 114 #[.agg #[.int .i64 s, .int .i64 l, .int .i64 c, .int .i64 sh, .slice A n cap], .int .i64 x, .agg #[.int .i64 ct, .int .i64 cq], .int .i64 v, .slice P m pcap] w fun e w' => e = .returned (.bool (lefB s l c sh zs x ct cq v ps)) ∧ Below w.heap.size w w' := by
  rw [← lefB_spec]
  have G := (Box.new w 26 #[.int .i64 s, .int .i64 l, .int .i64 c, .int .i64 sh, .slice A n cap]).alloc (.cells #[.int .i64 ct, .int .i64 cq] 36)
  have D := Box.new (w.alloc (.cells #[.int .i64 s, .int .i64 l, .int .i64 c, .int .i64 sh, .slice A n cap] 26)) 36 #[.int .i64 ct, .int .i64 cq]
  have E := bel_trans (bel_alloc w (.cells #[.int .i64 s, .int .i64 l, .int .i64 c, .int .i64 sh, .slice A n cap] 26)) (bel_alloc _ (.cells #[.int .i64 ct, .int .i64 cq] 36))
  simp only [World.size_alloc] at D
  have HR := Lib.hid hr
  have HP := Lib.hid h
  have HL := Lib.hid h.1
  have HM := Lib.hid hm
  clear hr hm h
  go_enter Tryz.func114, Tryz.ntmps114
  go_wp2_with fail
  generalize ((w.alloc _).alloc _ : World) = w0 at D G E ⊢
  rcases h1 : stB ct cq with _ | _
  · have H1 := Lib.hid h1
    clear h1
    refine (specStampR_is H1.out w0).mono ?_
    rintro e w1 ⟨rfl, hb1⟩
    have E1 := bel_trans E hb1
    go_wp2
    go_ret
    exact ⟨by unfold spcB; rw [H1.out]; rfl, E1⟩
  have H1 := Lib.hid h1
  clear h1
  refine (specStampR_is H1.out w0).mono ?_
  rintro e w1 ⟨rfl, hb1⟩
  have E1 := bel_trans E hb1
  have G1 := G.later hb1 G.lt
  have D1 := D.later hb1 D.lt
  clear E G D hb1
  obtain ⟨d0, d1⟩ := D1.two
  obtain ⟨g0, g1, g2, g3, g4⟩ := G1.five
  rcases h2 : valB v with _ | _
  · have H2 := Lib.hid h2
    clear h2
    go_wp2_with (go_at_call 145; refine (specValR_is H2.out _).mono ?_; rintro e w3 ⟨rfl, rfl⟩)
    go_ret
    exact ⟨by unfold spcB; rw [H1.out, H2.out]; rfl, E1⟩
  have H2 := Lib.hid h2
  clear h2
  go_wp2_with fail
  refine (specValR_is H2.out w1).mono ?_
  rintro e w1' ⟨rfl, rfl⟩
  rcases h3 : proB s l c sh zs x ct cq v ps with _ | _
  · have H3 := Lib.hid h3
    clear h3
    go_wp2_with fail
    refine (specProvenR_is H3.out A n cap P m pcap w1 HM.out ((HR.out.below E1 (Nat.le_refl _)).more E1.size) hn (HP.out.later E1)).mono ?_
    rintro e w2 ⟨rfl, hb2⟩
    have E2 := bel_trans E1 hb2
    go_wp2
    go_ret
    exact ⟨by unfold spcB; rw [H1.out, H2.out, H3.out]; rfl, E2⟩
  have H3 := Lib.hid h3
  clear h3
  go_wp2_with fail
  refine (specProvenR_is H3.out A n cap P m pcap w1 HM.out ((HR.out.below E1 (Nat.le_refl _)).more E1.size) hn (HP.out.later E1)).mono ?_
  rintro e w2 ⟨rfl, hb2⟩
  have E2 := bel_trans E1 hb2
  have G2 := G1.later hb2 G1.lt
  have D2 := D1.later hb2 D1.lt
  clear E1 G1 D1 hb2 d0 d1 g0 g1 g2 g3 g4
  obtain ⟨d0, d1⟩ := D2.two
  rcases zero_cases ct cq with ⟨rfl, rfl⟩ | ⟨hcase, hnz⟩
  · go_wp2_with fail
    refine (l4Zero_yes w2).mono ?_
    rintro e w3 ⟨rfl, hb3⟩
    have E3 := bel_trans E2 hb3
    by_cases hv : v = 0
    · subst hv
      by_cases hz : m = 0
      · subst hz
        have hps : Hid (ps = []) := Lib.hid (List.length_eq_zero_iff.1 HL.out)
        go_wp2
        go_ret
        exact ⟨by unfold spcB; rw [H1.out, H2.out, H3.out, hps.out]; simp, E3⟩
      · have hm0 : ((m : Int) == 0) = false := by simp; exact hz
        have hps : Hid (ps ≠ []) := Lib.hid (fun e => hz (by rw [← HL.out, e]; rfl))
        go_wp2
        go_ret
        exact ⟨by unfold spcB; rw [H1.out, H2.out, H3.out]; have := hps.out; simp [this], E3⟩
    · have hv' : (v == 0) = false := by simpa using hv
      go_wp2
      go_ret
      exact ⟨by unfold spcB; rw [H1.out, H2.out, H3.out]; simp [hv], E3⟩
  · have HZ := Lib.hid (l4Zero_no ct cq hcase)
    have HN := Lib.hid hnz
    clear hcase hnz
    go_wp2_with fail
    refine (HZ.out w2).mono ?_
    rintro e w3 ⟨rfl, hb3⟩
    have E3 := bel_trans E2 hb3
    have G3 := G2.later hb3 G2.lt
    have D3 := D2.later hb3 D2.lt
    have R3 := (HR.out.below E3 (Nat.le_refl _)).more E3.size
    have P3 := HP.out.later E3
    clear E2 G2 D2 hb3 d0 d1
    obtain ⟨d0, d1⟩ := D3.two
    obtain ⟨g0, g1, g2, g3, g4⟩ := G3.five
    obtain ⟨J, hJ⟩ : ∃ J, goodP (rB s l c sh zs 1 x ct cq v) ps = J := ⟨_, rfl⟩
    have hJl : J.length ≤ 4194304 := by
      rw [← hJ]
      have := goodP_le (rB s l c sh zs 1 x ct cq v) ps
      rw [HL.out] at this
      omega
    replace hJ := Lib.hid hJ
    go_wp2_with fail
    go_region_held3 (fun w' => w'.cell? ⟨w.heap.size, 0, none⟩ = some (.int .i64 s) ∧ w'.cell? ⟨w.heap.size, 1, none⟩ = some (.int .i64 l) ∧ w'.cell? ⟨w.heap.size, 2, none⟩ = some (.int .i64 c) ∧ w'.cell? ⟨w.heap.size, 3, none⟩ = some (.int .i64 sh) ∧ w'.cell? ⟨w.heap.size, 4, none⟩ = some (.slice A n cap) ∧ w'.cell? ⟨w.heap.size + 1, 0, none⟩ = some (.int .i64 ct) ∧ w'.cell? ⟨w.heap.size + 1, 1, none⟩ = some (.int .i64 cq))
      (first | (with_reducible exact K6) | (with_reducible exact K5) | (with_reducible exact K4) | go_keep)
      (first
        | (go_at_call 124; refine (l4Ready_is x ct cq v _).mono ?_; rintro e w4 ⟨rfl, hb4⟩; have F4 := bel_drew' hb4; have R4 := (R3.below F4 (Nat.le_refl _)).more F4.size; have P4 := P3.later F4; have K4 := sevenGD (G3.later F4 G3.lt) (D3.later F4 D3.lt))
        | (go_at_call 148; refine (specGood_is s l c sh A n cap zs 1 x ct cq v P m pcap ps _ HM.out R4 hn P4).mono ?_; rintro e w5 ⟨q5, c5, rfl, hw5, hb5⟩; rw [hJ.out] at hw5; have F5 := bel_trans F4 hb5; have P5 := P4.later hb5; have K5 := sevenGD (G3.later F5 G3.lt) (D3.later F5 D3.lt))
        | (go_at_call 147; rw [hJ.out]; refine (l7Like_is P _ m pcap J.length c5 ps J _ hn hJl P5 hw5).mono ?_; rintro e w6 ⟨rfl, hb6⟩; have F6 := bel_trans F5 hb6; have K6 := sevenGD (G3.later F6 G3.lt) (D3.later F6 D3.lt)))
    have E6 := bel_trans E3 F6
    clear K4 K5 K6 d0 d1 g0 g1 g2 g3 g4
    go_wp2
    go_ret
    exact ⟨by unfold spcB; rw [H1.out, H2.out, H3.out, if_neg HN.out, hJ.out]; rfl, E6⟩

end Go.Proofs.YtmooajppfjglaaaGreat

/- The model's RegOk: its contract. -/
namespace Go.Proofs.YtmooajppfjglaaaGreat
open Go.RowKit

end Go.Proofs.YtmooajppfjglaaaGreat

/- The model's l4Put and GoodSeals once more: what they answer is a row of the call's own (written by spec_own.py). -/
namespace Go.Proofs.YtmooajppfjglaaaGreat
open Go.RowKit

/-- What is answered: a row of one's own, from base on. -/
def GivesO (base : Nat) (w : World) (ps : List (Int × Int)) (e : Ending) (w' : World) : Prop :=
  ∃ g cap, e = .returned (.slice (some ⟨g, 0, none⟩) ps.length cap) ∧ w'.ownsRow base 127 2 (.slice (some ⟨g, 0, none⟩) ps.length cap) ps.length (flatP ps) ∧ Below w.heap.size w w'

set_option maxRecDepth 100000 in
set_option maxHeartbeats 2000000 in
theorem putO_is (base g cap : Nat) (l : List (Int × Int)) (x t : Int) (w : World) (hn : l.length ≤ 4194304) (hbase : base ≤ w.heap.size) (hO : w.ownsRow base 127 2 (.slice (some ⟨g, 0, none⟩) l.length cap) l.length (flatP l)) :
    Calls Tryz.prog 166 #[.slice (some ⟨g, 0, none⟩) l.length cap, .agg #[.int .i64 x, .int .i64 t]] w (GivesO base w (put l (x, t))) := by
  have h := own_pairs hO
  have HO := Lib.hid hO
  clear hO
  obtain ⟨i0, hi0, hz0, hz1, hz2⟩ := info_parts Tryz.infoSealI
  have K0 : PutAt w ((w.alloc (.cells #[.int .i64 x, .int .i64 t] 127)).alloc (.cells #[] 127)) x t (w.heap.size + 1) 0 [] := by
    refine ⟨⟨rfl, .inr ⟨w.heap.size + 1, 0, #[], rfl, Nat.le_refl _, ?_, Nat.le_refl _, Nat.zero_le _, rfl, rfl⟩⟩, bel_trans (bel_alloc _ _) (bel_alloc _ _), (Box.new w _ _).alloc _⟩
    have := Box.new (w.alloc (.cells #[.int .i64 x, .int .i64 t] 127)) 127 #[]
    simp only [World.size_alloc] at this
    exact this
  have HP := Lib.hid h
  obtain ⟨n, hnl⟩ : ∃ n, l.length = n := ⟨_, rfl⟩
  have K1 : ∀ k, k < n → l.take (k + 1) = l.take k ++ [pth l k] := fun k hk => by
    rw [List.take_succ_eq_append_getElem (by omega), pth_lt (by omega)]
  have K1 := Lib.hid K1
  rw [hnl] at hn ⊢
  have hnl := Lib.hid hnl
  rename_i q1 q2
  clear h q1 q2
  go_enter Tryz.func166, Tryz.ntmps166
  go_wp2_with fail
  generalize ((w.alloc _).alloc _ : World) = w1 at K0 ⊢
  go_loopw [5, 6, 7] (fun ov bv iv wr => ∃ (k q cap' : Nat) (o : List (Int × Int)) (b : Bool), k ≤ n ∧ iv = .int .i64 k ∧ bv = .bool b ∧ ov = .slice (some ⟨q, 0, none⟩) o.length cap' ∧ PutAt w wr x t q cap' o ∧ o.length ≤ k + 1 ∧ (∀ p ∈ l.take k, p.1 ≠ x) ∧
      ((b = false ∧ o = l.take k ∧ ∀ p ∈ l.take k, p.1 ≤ x) ∨ (b = true ∧ o = ins (l.take k) (x, t) ∧ ∃ p ∈ l.take k, x < p.1))) (fun _ _ i _ => n - (intOf i).toNat)
  case atStart => exact ⟨0, _, 0, [], false, Nat.zero_le _, rfl, rfl, rfl, K0, by simp, by simp, .inl ⟨rfl, by simp, by simp⟩⟩
  case round =>
    obtain ⟨k, q, cap', o, b, hk, rfl, rfl, rfl, hP, hol, hne, hcase⟩ := hrel
    by_cases hlt : k < n
    · have hlt' : (k : Int) < (n : Int) := by omega
      obtain ⟨b', o', hA, hbB, hcell⟩ := HP.out.2 (by have := hnl.out; omega)
      cases hA
      obtain ⟨c0, c1⟩ := hcell k (by have := hnl.out; omega)
      rw [Nat.zero_add] at c0 c1
      have c0 := (hP.bel.cell (p := ⟨g, k * 2, none⟩) hbB).trans c0
      have c1 := (hP.bel.cell (p := ⟨g, k * 2 + 1, none⟩) hbB).trans c1
      have hst := Lib.hid (K1.out k hlt)
      generalize hy : pth l k = y at c0 c1 hst
      obtain ⟨y, y'⟩ := y
      obtain ⟨s0, s1⟩ := hP.box.two
      have hgl : g < wr.heap.size := Nat.lt_of_lt_of_le hbB hP.bel.size
      have hq := (hP.own.lt q rfl)
      have g0 := After.cell (by exact hgl) c0
      have g1 := After.cell (by exact hgl) c1
      have e0 := After.cell (by exact hP.box.lt) s0
      have e1 := After.cell (by exact hP.box.lt) s1
      have hy := Lib.hid hy
      have hcase := Lib.hid hcase
      have hne := Lib.hid hne
      have hPP := Lib.hid hP
      rename_i q1 q2 q3
      clear q1 q2 q3 hcell c0 c1 s0 s1 hP
      by_cases hyx : y = x
      · subst hyx
        have hhas : put l (y, t) = l := by
          have : has l y = true := has_mem.2 ⟨pth l k, by rw [pth_lt (by have := hnl.out; omega)]; exact List.getElem_mem _, by rw [hy.out]⟩
          simp [put, this]
        rw [hhas]
        go_wp2_with fail
        refine wp_region_after (by kernel_rfl) (by kernel_rfl) ?_
        repeat (first | go_big_quiet_step (fail) | quiet_step (fail))
        refine wpQuiet_nil ?_
        intro pw
        have hP := hPP.out.later pw.bel
        clear g0 g1 e0 e1
        go_wp2
        go_ret
        exact ⟨g, cap, by rw [hnl.out]; rfl, hnl.out ▸ HO.out.kept (grown_bel hP.bel none) (.inr (by intro e; cases e)), hP.bel⟩
      · have hyx' : (y == x) = false := by simp [hyx]
        have hyx := Lib.hid hyx
        rename_i q1
        clear q1
        go_wp2_with fail
        refine wp_region_after (by kernel_rfl) (by kernel_rfl) ?_
        repeat (first | go_big_quiet_step (fail) | quiet_step (fail))
        refine wpQuiet_nil ?_
        intro pw
        have d0 := g0 pw
        have d1 := g1 pw
        have d2 := e0 pw
        have d3 := e1 pw
        have hP := hPP.out.later pw.bel
        clear g0 g1 e0 e1 hPP
        generalize pw.x = w2 at d0 d1 d2 d3 hP ⊢
        have hsz := hP.bel.size
        have hbl := hP.box.lt
        have hgl2 : g < w2.heap.size := Nat.lt_of_lt_of_le hbB hsz
        have g0 := After.cell (by exact hgl2) d0
        have g1 := After.cell (by exact hgl2) d1
        have e0 := After.cell (by exact hbl) d2
        have e1 := After.cell (by exact hbl) d3
        have hPP := Lib.hid hP
        clear d0 d1 d2 d3 hP
        have hne' : ∀ p ∈ l.take (k + 1), p.1 ≠ x := by
          rw [hst.out]
          intro p hp
          rcases List.mem_append.1 hp with e | e
          · exact hne.out p e
          · simp only [List.mem_singleton] at e
            rw [e]
            exact hyx.out
        have hne' := Lib.hid hne'
        rename_i q1
        clear q1
        rcases hcase.out with ⟨rfl, ho, hall⟩ | ⟨rfl, ho, hex⟩
        · have ho := Lib.hid ho
          have hall := Lib.hid hall
          rename_i q1 q2
          clear q1 q2
          by_cases hxy : x < y
          · go_wp2_with fail
            refine wp_region_after (by kernel_rfl) (by kernel_rfl) ?_
            repeat (first | go_big_quiet_step (fail) | quiet_step (fail))
            refine wpQuiet_nil ?_
            intro pw2
            have d0 := g0 pw2
            have d1 := g1 pw2
            have d2 := e0 pw2
            have d3 := e1 pw2
            have hP := hPP.out.later pw2.bel
            clear g0 g1 e0 e1 hPP
            generalize pw2.x = w3 at d0 d1 d2 d3 hP ⊢
            have hq3 := hP.own.lt q rfl
            have hsz3 := hP.bel.size
            have hbx3 := hP.box.lt
            go_wp2_with (first | (at_builtin; refine wpList_append_lies _ rfl _ _ _ rfl (w.heap.size + 1) 127 i0 _ 2 16 Tryz.underlying37 hi0 hz0 hz1 hz2 rfl (by omega) (.slice (some ⟨gg, 0, none⟩) (o.length + 1) cap2) (o.length + 1) (flatP o ++ [.int .i64 x, .int .i64 t]) rfl (hown2.alloc _) ⟨w5.heap.size, 0, none⟩ 1 1 [.int .i64 y, .int .i64 y'] rfl rfl (World.news_of_block (cs := #[.int .i64 y, .int .i64 y']) (t := 127) (fr := (0, 0)) (heap_alloc_new w5 _)) (by simp [Value.oneCell']) (by omega) (by unfold maxLen; omega) (by omega) (by simp; omega) (w5.heap.size + 1) (by simp) ?_; intro g3 cap3 w6 hown3 hgrow3 hat3 hlt3; have hP3 := hP2.push (gg := g3) (cap2 := cap3) (a := y) (b := y') (by simpa [flatP_snoc] using hown3) (by simpa using hgrow3); clear hown3 hgrow3 hat3 hown2) | (at_builtin; refine wpList_append_lies _ rfl _ _ _ rfl (w.heap.size + 1) 127 i0 _ 2 16 Tryz.underlying37 hi0 hz0 hz1 hz2 rfl (by omega) (.slice (some ⟨q, 0, none⟩) (o.length) cap') (o.length) (flatP o) rfl (hP.own.alloc _) ⟨w3.heap.size, 0, none⟩ 1 1 [.int .i64 x, .int .i64 t] rfl rfl (World.news_of_block (cs := #[.int .i64 x, .int .i64 t]) (t := 127) (fr := (0, 0)) (heap_alloc_new w3 _)) (by simp [Value.oneCell']) (by omega) (by unfold maxLen; omega) (by omega) (by simp; omega) (w3.heap.size + 1) (by simp) ?_; intro gg cap2 w5 hown2 hgrow2 hat hlt2; have hP2 := hP.push hown2 hgrow2; have c0 := (hP2.bel.cell (p := ⟨g, k * 2, none⟩) hbB).trans ((hP.bel.cell (p := ⟨g, k * 2, none⟩) hbB).symm.trans d0); have c1 := (hP2.bel.cell (p := ⟨g, k * 2 + 1, none⟩) hbB).trans ((hP.bel.cell (p := ⟨g, k * 2 + 1, none⟩) hbB).symm.trans d1); have hsz5 := hP2.bel.size; have hbx5 := hP2.box.lt; clear hgrow2 hat))
            have hP3 := Lib.hid hP3
            rename_i q1
            clear q1 hP2 hP
            go_roundw
            case rel =>
              have hl2 : (o ++ [(x, t)] ++ [(y, y')]).length = o.length + 1 + 1 := by simp
              exact ⟨k + 1, _, _, o ++ [(x, t)] ++ [(y, y')], true, by omega, by go_num, rfl, by rw [hl2], hP3.out, by rw [hl2, ho.out, List.length_take]; have := hnl.out; omega, hne'.out, .inr ⟨rfl, by rw [hst.out, ins_here hall.out hxy, ho.out], (y, y'), by rw [hst.out]; simp, hxy⟩⟩
            case measure => simp [intOf]; omega
          · have hxy' : y ≤ x := Int.not_lt.1 hxy
            clear hxy
            go_wp2_with fail
            refine wp_region_after (by kernel_rfl) (by kernel_rfl) ?_
            repeat (first | go_big_quiet_step (fail) | quiet_step (fail))
            refine wpQuiet_nil ?_
            intro pw2
            have d0 := g0 pw2
            have d1 := g1 pw2
            have d2 := e0 pw2
            have d3 := e1 pw2
            have hP := hPP.out.later pw2.bel
            clear g0 g1 e0 e1 hPP
            generalize pw2.x = w3 at d0 d1 d2 d3 hP ⊢
            have hq3 := hP.own.lt q rfl
            have hsz3 := hP.bel.size
            have hbx3 := hP.box.lt
            go_wp2_with (at_builtin; refine wpList_append_lies _ rfl _ _ _ rfl (w.heap.size + 1) 127 i0 _ 2 16 Tryz.underlying37 hi0 hz0 hz1 hz2 rfl (by omega) (.slice (some ⟨q, 0, none⟩) (o.length) cap') (o.length) (flatP o) rfl (hP.own.alloc _) ⟨w3.heap.size, 0, none⟩ 1 1 [.int .i64 y, .int .i64 y'] rfl rfl (World.news_of_block (cs := #[.int .i64 y, .int .i64 y']) (t := 127) (fr := (0, 0)) (heap_alloc_new w3 _)) (by simp [Value.oneCell']) (by omega) (by unfold maxLen; omega) (by omega) (by simp; omega) (w3.heap.size + 1) (by simp) ?_; intro gg cap2 w5 hown2 hgrow2 hat hlt2; have hP3 := hP.push hown2 hgrow2; clear hown2 hgrow2 hat)
            have hP3 := Lib.hid hP3
            rename_i q1
            clear q1 hP
            go_roundw
            case rel =>
              exact ⟨k + 1, _, _, o ++ [(y, y')], false, by omega, by go_num, rfl, by simp, hP3.out, by rw [List.length_append, ho.out, List.length_take]; simp; omega, hne'.out, .inl ⟨rfl, by rw [hst.out, ho.out], by
                rw [hst.out]
                intro p hp
                rcases List.mem_append.1 hp with e | e
                · exact hall.out p e
                · simp only [List.mem_singleton] at e
                  rw [e]
                  exact hxy'⟩⟩
            case measure => simp [intOf]; omega
        · have ho := Lib.hid ho
          have hex := Lib.hid hex
          rename_i q1 q2
          clear q1 q2
          go_wp2_with fail
          refine wp_region_after (by kernel_rfl) (by kernel_rfl) ?_
          repeat (first | go_big_quiet_step (fail) | quiet_step (fail))
          refine wpQuiet_nil ?_
          intro pw2
          have d0 := g0 pw2
          have d1 := g1 pw2
          have d2 := e0 pw2
          have d3 := e1 pw2
          have hP := hPP.out.later pw2.bel
          clear g0 g1 e0 e1 hPP
          generalize pw2.x = w3 at d0 d1 d2 d3 hP ⊢
          have hq3 := hP.own.lt q rfl
          have hsz3 := hP.bel.size
          have hbx3 := hP.box.lt
          go_wp2_with (at_builtin; refine wpList_append_lies _ rfl _ _ _ rfl (w.heap.size + 1) 127 i0 _ 2 16 Tryz.underlying37 hi0 hz0 hz1 hz2 rfl (by omega) (.slice (some ⟨q, 0, none⟩) (o.length) cap') (o.length) (flatP o) rfl (hP.own.alloc _) ⟨w3.heap.size, 0, none⟩ 1 1 [.int .i64 y, .int .i64 y'] rfl rfl (World.news_of_block (cs := #[.int .i64 y, .int .i64 y']) (t := 127) (fr := (0, 0)) (heap_alloc_new w3 _)) (by simp [Value.oneCell']) (by omega) (by unfold maxLen; omega) (by omega) (by simp; omega) (w3.heap.size + 1) (by simp) ?_; intro gg cap2 w5 hown2 hgrow2 hat hlt2; have hP3 := hP.push hown2 hgrow2; clear hown2 hgrow2 hat)
          have hP3 := Lib.hid hP3
          rename_i q1
          clear q1 hP
          go_roundw
          case rel =>
            exact ⟨k + 1, _, _, o ++ [(y, y')], true, by omega, by go_num, rfl, by simp, hP3.out, by rw [List.length_append, ho.out, ins_len, List.length_take]; simp; omega, hne'.out, .inr ⟨rfl, by rw [hst.out, ins_snoc hex.out, ho.out], by
              obtain ⟨p, hp, hlt⟩ := hex.out
              exact ⟨p, by rw [hst.out]; simp [hp], hlt⟩⟩⟩
          case measure => simp [intOf]; omega
    · obtain rfl : k = n := by omega
      have hno : has l x = false := has_not.2 (by have := hne; rwa [← hnl.out, List.take_length] at this)
      have hpt : put l (x, t) = ins l (x, t) := by simp [put, hno]
      have hpt := Lib.hid hpt
      have hcase : (b = false ∧ o = l ∧ ∀ p ∈ l, p.1 ≤ x) ∨ (b = true ∧ o = ins l (x, t) ∧ ∃ p ∈ l, x < p.1) := by rwa [← hnl.out, List.take_length] at hcase
      rename_i q1 q2
      clear q1 q2 hno hne
      have hq3 := hP.own.lt q rfl
      have hsz3 := hP.bel.size
      have hbx3 := hP.box.lt
      obtain ⟨s0, s1⟩ := hP.box.two
      rcases hcase with ⟨rfl, ho, hall⟩ | ⟨rfl, ho, hex⟩
      · have ho := Lib.hid ho
        have hall := Lib.hid hall
        rename_i q1 q2
        clear q1 q2
        go_wp2_with (at_builtin; refine wpList_append_lies _ rfl _ _ _ rfl (w.heap.size + 1) 127 i0 _ 2 16 Tryz.underlying37 hi0 hz0 hz1 hz2 rfl (by omega) (.slice (some ⟨q, 0, none⟩) (o.length) cap') (o.length) (flatP o) rfl (hP.own.alloc _) ⟨wr.heap.size, 0, none⟩ 1 1 [.int .i64 x, .int .i64 t] rfl rfl (World.news_of_block (cs := #[.int .i64 x, .int .i64 t]) (t := 127) (fr := (0, 0)) (heap_alloc_new wr _)) (by simp [Value.oneCell']) (by omega) (by unfold maxLen; omega) (by omega) (by simp; omega) (wr.heap.size + 1) (by simp) ?_; intro gg cap2 w5 hown2 hgrow2 hat hlt2; have hP3 := hP.push hown2 hgrow2; clear hown2 hgrow2 hat)
        go_ret
        have e : put l (x, t) = o ++ [(x, t)] := by rw [hpt.out, ins_small hall.out, ho.out]
        rw [e]
        exact ⟨gg, cap2, by rw [List.length_append]; rfl, ownLow hP3.own (by omega), hP3.bel⟩
      · have ho := Lib.hid ho
        have hex := Lib.hid hex
        rename_i q1 q2
        clear q1 q2
        go_wp2
        go_ret
        have e : put l (x, t) = o := by rw [hpt.out, ho.out]
        rw [e]
        exact ⟨_, _, rfl, ownLow hP.own (by omega), hP.bel⟩


set_option maxRecDepth 100000 in
set_option maxHeartbeats 1000000 in
theorem specGoodO_is (s l c sh : Int) (A : Option Addr) (n cap : Nat) (zs : List Int) (ck ch ct cq cv : Int) (P : Option Addr) (m pcap : Nat) (ps : List (Int × Int)) (w : World) (hm : n ≤ maxLen) (hr : Row w w.heap.size A n zs) (hn : m ≤ 4194304) (h : Pairs w w.heap.size P m ps) :
    Calls Tryz.prog 148 #[.agg #[.int .i64 s, .int .i64 l, .int .i64 c, .int .i64 sh, .slice A n cap], .agg #[.int .i64 ck, .int .i64 ch, .int .i64 ct, .int .i64 cq, .int .i64 cv], .slice P m pcap] w (GivesO w.heap.size w (goodP (rB s l c sh zs ck ch ct cq cv) ps)) := by
  have E0 := bel_trans (bel_trans (bel_alloc w (.cells #[.int .i64 s, .int .i64 l, .int .i64 c, .int .i64 sh, .slice A n cap] 26)) (bel_alloc _ (.cells #[.int .i64 ck, .int .i64 ch, .int .i64 ct, .int .i64 cq, .int .i64 cv] 156))) (bel_alloc _ (.cells #[] 127))
  have DG := ((Box.new w 26 #[.int .i64 s, .int .i64 l, .int .i64 c, .int .i64 sh, .slice A n cap]).alloc (.cells #[.int .i64 ck, .int .i64 ch, .int .i64 ct, .int .i64 cq, .int .i64 cv] 156)).alloc (.cells #[] 127)
  have DC := (Box.new (w.alloc (.cells #[.int .i64 s, .int .i64 l, .int .i64 c, .int .i64 sh, .slice A n cap] 26)) 156 #[.int .i64 ck, .int .i64 ch, .int .i64 ct, .int .i64 cq, .int .i64 cv]).alloc (.cells #[] 127)
  simp only [World.size_alloc] at DC
  have O0 : (((w.alloc (.cells #[.int .i64 s, .int .i64 l, .int .i64 c, .int .i64 sh, .slice A n cap] 26)).alloc (.cells #[.int .i64 ck, .int .i64 ch, .int .i64 ct, .int .i64 cq, .int .i64 cv] 156)).alloc (.cells #[] 127)).ownsRow w.heap.size 127 2 (.slice (some ⟨w.heap.size + 1 + 1, 0, none⟩) 0 0) 0 [] := by
    have := own_new ((w.alloc (.cells #[.int .i64 s, .int .i64 l, .int .i64 c, .int .i64 sh, .slice A n cap] 26)).alloc (.cells #[.int .i64 ck, .int .i64 ch, .int .i64 ct, .int .i64 cq, .int .i64 cv] 156)) 127 2
    simp only [World.size_alloc] at this
    exact ownLow this (by omega)
  replace O0 := Lib.hid O0
  have HR := Lib.hid hr
  have HM := Lib.hid hm
  have HP := Lib.hid h
  have hl := Lib.hid h.1
  clear h hr hm
  generalize hR : rB s l c sh zs ck ch ct cq cv = R
  have HRR := Lib.hid hR
  clear hR
  go_enter Tryz.func148, Tryz.ntmps148
  go_wp2_with fail
  generalize (((w.alloc _).alloc _).alloc _ : World) = w1 at E0 DG DC O0 ⊢
  go_loopw [7, 8] (fun ov iv wr => ∃ (k q c' : Nat) (L : List (Int × Int)), k ≤ m ∧ iv = .int .i64 k ∧ ov = .slice (some ⟨q, 0, none⟩) L.length c' ∧ L = goodP R (ps.take k) ∧ wr.ownsRow w.heap.size 127 2 (.slice (some ⟨q, 0, none⟩) L.length c') L.length (flatP L) ∧ Below w.heap.size w wr ∧ Box wr w.heap.size 26 #[.int .i64 s, .int .i64 l, .int .i64 c, .int .i64 sh, .slice A n cap] ∧ Box wr (w.heap.size + 1) 156 #[.int .i64 ck, .int .i64 ch, .int .i64 ct, .int .i64 cq, .int .i64 cv]) (fun _ i _ => m - (intOf i).toNat)
  case atStart => exact ⟨0, _, 0, [], Nat.zero_le _, rfl, rfl, by simp [goodP_nil], O0.out, E0, DG, DC⟩
  case round =>
    obtain ⟨k, q, c', L, hk, rfl, rfl, hL, hp, hbel, DG, DC⟩ := hrel
    by_cases hlt : k < m
    · have hlt' : (k : Int) < (m : Int) := by omega
      obtain ⟨b, o, hA, hbB, hcell⟩ := HP.out.2 (by omega)
      subst hA
      obtain ⟨c0, c1⟩ := hcell k hlt
      replace c0 := (hbel.cell (p := ⟨b, o + k * 2, none⟩) hbB).trans c0
      replace c1 := (hbel.cell (p := ⟨b, o + k * 2 + 1, none⟩) hbB).trans c1
      have hyes := Lib.hid (goodP_yes (R := R) (ps := ps) (k := k) (by rw [hl.out]; exact hlt))
      have hno := Lib.hid (goodP_no (R := R) (ps := ps) (k := k) (by rw [hl.out]; exact hlt))
      rw [← hL] at hyes hno
      have hLl : L.length ≤ 4194304 := by
        rw [hL]
        have := goodP_le R (ps.take k)
        rw [List.length_take] at this
        omega
      generalize hy : pth ps k = y at c0 c1 hyes hno
      obtain ⟨y, y'⟩ := y
      replace hL := Lib.hid hL
      replace hy := Lib.hid hy
      have hbl : b < wr.heap.size := Nat.lt_of_lt_of_le hbB hbel.size
      have g0 := After.cell (by exact hbl) c0
      have g1 := After.cell (by exact hbl) c1
      obtain ⟨f0, f1, f2, f3, f4⟩ := fiveAfter DG
      obtain ⟨f5, f6, f7, f8, f9⟩ := fiveAfter DC
      have hrow := Lib.hid ((HR.out.below hbel (Nat.le_refl _)).more hbel.size)
      have HDG := Lib.hid DG
      have HDC := Lib.hid DC
      have HPL := Lib.hid hp
      clear hcell c0 c1 DG DC hp
      rcases hRy : R (y, y') with _ | _
      · have HY : Hid (rB s l c sh zs ck ch ct cq cv (y, y') = false) := by rw [HRR.out]; exact hRy
        replace hno := Lib.hid (hno.out hRy)
        clear hRy
        go_wp2_with fail
        refine wp_region_after (by kernel_rfl) (by kernel_rfl) ?_
        repeat (first | go_big_quiet_step ((go_at_call 165; exact after_of (specRightB_is HY.out _ n cap _ HM.out (rowAfter hrow.out _)))) | quiet_step ((go_at_call 165; exact after_of (specRightB_is HY.out _ n cap _ HM.out (rowAfter hrow.out _)))))
        refine wpQuiet_nil ?_
        intro pw
        have E2 := bel_trans hbel pw.bel
        have DG := HDG.out.later pw.bel HDG.out.lt
        have DC := HDC.out.later pw.bel HDC.out.lt
        have hp := Lib.hid (HPL.out.kept (grown_bel pw.bel none) (.inr (by intro e; cases e)))
        clear g0 g1 f0 f1 f2 f3 f4 f5 f6 f7 f8 f9
        go_wp2
        go_roundw
        case rel => exact ⟨k + 1, q, c', L, by omega, by go_num, rfl, hno.out.symm, hp.out, E2, DG, DC⟩
        case measure => simp [intOf]; omega
      · have HY : Hid (rB s l c sh zs ck ch ct cq cv (y, y') = true) := by rw [HRR.out]; exact hRy
        replace hyes := Lib.hid (hyes.out hRy)
        clear hRy
        go_wp2_with fail
        refine wp_region_after (by kernel_rfl) (by kernel_rfl) ?_
        repeat (first | go_big_quiet_step ((go_at_call 165; exact after_of (specRightB_is HY.out _ n cap _ HM.out (rowAfter hrow.out _)))) | quiet_step ((go_at_call 165; exact after_of (specRightB_is HY.out _ n cap _ HM.out (rowAfter hrow.out _)))))
        refine wpQuiet_nil ?_
        intro pw
        have E2 := bel_trans hbel pw.bel
        have DG := HDG.out.later pw.bel HDG.out.lt
        have DC := HDC.out.later pw.bel HDC.out.lt
        have hp := HPL.out.kept (grown_bel pw.bel none) (.inr (by intro e; cases e))
        have d0 := g0 pw
        have d1 := g1 pw
        clear g0 g1 f0 f1 f2 f3 f4 f5 f6 f7 f8 f9 HDG HDC HPL
        generalize pw.x = w2 at E2 DG DC hp d0 d1 ⊢
        go_wp2_with fail
        refine (putO_is w.heap.size q c' L y y' w2 hLl E2.size hp).mono ?_
        rintro e w3 ⟨g', c'', rfl, hp', hb'⟩
        replace hp' := Lib.hid hp'
        have DG' := DG.later hb' DG.lt
        have DC' := DC.later hb' DC.lt
        go_wp2
        go_roundw
        case rel => exact ⟨k + 1, g', c'', put L (y, y'), by omega, by go_num, rfl, hyes.out.symm, hp'.out, bel_trans E2 hb', DG', DC'⟩
        case measure => simp [intOf]; omega
    · obtain rfl : k = m := by omega
      rw [← hl.out, List.take_length] at hL
      replace hL := Lib.hid hL
      replace hp := Lib.hid hp
      go_wp2
      go_ret
      rw [← hL.out]
      exact ⟨q, c', rfl, hp.out, hbel⟩


end Go.Proofs.YtmooajppfjglaaaGreat

/- The model's writing on a shelf: its contract. -/
namespace Go.Proofs.YtmooajppfjglaaaGreat
open Go.RowKit

/-- Can it be written? -/
def wrtB (s l c sh : Int) (zs : List Int) (x ct cq v : Int) (cs : List (Int × Int)) : Bool := !decide (ct = 0 ∧ cq = 0) && proB s l c sh zs x ct cq v cs
theorem wrt_parts {s l c sh : Int} {zs : List Int} {x ct cq v : Int} {cs : List (Int × Int)} (h : wrtB s l c sh zs x ct cq v cs = true) : stB ct cq = true ∧ cs.length ≤ 20 ∧ ¬ (ct = 0 ∧ cq = 0) ∧ proB s l c sh zs x ct cq v cs = true := by
  unfold wrtB at h
  simp only [Bool.and_eq_true, Bool.not_eq_true', decide_eq_false_iff_not] at h
  obtain ⟨hz, hp⟩ := h
  have hp' := hp
  rw [proB_eq, Bool.and_eq_true, Bool.or_eq_true] at hp'
  rcases hp'.2 with hn | hc
  · rcases nil_cases ct cq v with ⟨h1, h2, _, _⟩ | ⟨h, _⟩
    · exact absurd ⟨h1, h2⟩ hz
    · rw [h] at hn; cases hn
  · refine ⟨(cer_parts hc).1, ?_, hz, hp⟩
    unfold cerB at hc
    simp only [Bool.and_eq_true, decide_eq_true_eq] at hc
    omega
theorem wrt_zero (s l c sh : Int) (zs : List Int) (x v : Int) (cs : List (Int × Int)) : wrtB s l c sh zs x 0 0 v cs = false := by simp [wrtB]

/-- What the model's writing keeps. -/
structure LW (w wr : World) (S B : Nat) (s l c sh : Int) (A : Option Addr) (n cap : Nat) (rt rq rv : Int) (P : Option Addr) (p pc : Nat) (Q : Option Addr) (q qc : Nat) (ct cq : Int) (u v : Value) (ps : List (Int × Int)) (os : List Opn) : Prop where
  bel : Below w.heap.size w wr
  G : Box wr w.heap.size 26 #[.int .i64 s, .int .i64 l, .int .i64 c, .int .i64 sh, .slice A n cap]
  D : Box wr (w.heap.size + 1) 40 #[.int .i64 rt, .int .i64 rq, .int .i64 rv, .slice P p pc, .slice Q q qc]
  T : Box wr (w.heap.size + 1 + 1) 36 #[.int .i64 ct, .int .i64 cq]
  X : Box wr (w.heap.size + 1 + 1 + 1) 40 #[.int .i64 0, .int .i64 0, .int .i64 0, .slice none 0 0, .slice none 0 0]
  Y : Box wr S 40 #[.int .i64 rt, .int .i64 rq, .int .i64 rv, u, v]
  hlo : w.heap.size + 1 + 1 + 1 < B
  hBS : B ≤ S
  R : ResP wr (w.heap.size + 1 + 1 + 1 + 1) B u ps
  V : ResQ wr B S v os
theorem LW.later {w wr w' : World} {S B : Nat} {s l c sh : Int} {A : Option Addr} {n cap : Nat} {rt rq rv : Int} {P : Option Addr} {p pc : Nat} {Q : Option Addr} {q qc : Nat} {ct cq : Int} {u v : Value} {ps : List (Int × Int)} {os : List Opn} (h : LW w wr S B s l c sh A n cap rt rq rv P p pc Q q qc ct cq u v ps os) (hb : Below wr.heap.size wr w') : LW w w' S B s l c sh A n cap rt rq rv P p pc Q q qc ct cq u v ps os :=
  ⟨bel_trans h.bel hb, h.G.later hb h.G.lt, h.D.later hb h.D.lt, h.T.later hb h.T.lt, h.X.later hb h.X.lt, h.Y.later hb h.Y.lt, h.hlo, h.hBS, h.R.later hb, h.V.later hb⟩
theorem ResQ.farHi {w : World} {lo hi : Nat} {u : Value} {D : List Opn} (h : ResQ w lo hi u D) {b : Nat} (hb : hi ≤ b) (o : Nat) (x : Value) : ResQ (w.setCell ⟨b, o, none⟩ x) lo hi u D := by
  rcases h with h | ⟨g, cap, h1, h2, h3, h4, h5, h6⟩
  · exact .inl h
  · exact .inr ⟨g, cap, h1, h2, h3, h4, h5, h6.far (by omega) o x⟩
/-- What the model's writing keeps, once stamp and value are written. -/
structure LV (w wr : World) (S B : Nat) (s l c sh : Int) (A : Option Addr) (n cap : Nat) (ct cq v : Int) (z u : Value) (os : List Opn) : Prop where
  bel : Below w.heap.size w wr
  G : Box wr w.heap.size 26 #[.int .i64 s, .int .i64 l, .int .i64 c, .int .i64 sh, .slice A n cap]
  T : Box wr (w.heap.size + 1 + 1) 36 #[.int .i64 ct, .int .i64 cq]
  X : Box wr (w.heap.size + 1 + 1 + 1) 40 #[.int .i64 0, .int .i64 0, .int .i64 0, .slice none 0 0, .slice none 0 0]
  Y : Box wr S 40 #[.int .i64 ct, .int .i64 cq, .int .i64 v, z, u]
  hlo : w.heap.size + 1 + 1 + 1 < B
  hBS : B ≤ S
  V : ResQ wr B S u os
theorem LV.later {w wr w' : World} {S B : Nat} {s l c sh : Int} {A : Option Addr} {n cap : Nat} {ct cq v : Int} {z u : Value} {os : List Opn} (h : LV w wr S B s l c sh A n cap ct cq v z u os) (hb : Below wr.heap.size wr w') : LV w w' S B s l c sh A n cap ct cq v z u os :=
  ⟨bel_trans h.bel hb, h.G.later hb h.G.lt, h.T.later hb h.T.lt, h.X.later hb h.X.lt, h.Y.later hb h.Y.lt, h.hlo, h.hBS, h.V.later hb⟩
theorem LV.drew {w wr : World} {S B : Nat} {s l c sh : Int} {A : Option Addr} {n cap : Nat} {ct cq v : Int} {z u : Value} {os : List Opn} (h : LV w wr S B s l c sh A n cap ct cq v z u os) : LV w wr.drew S B s l c sh A n cap ct cq v z u os := h.later ((Below.refl _ _).drew)
theorem LW.put {w wr : World} {S B : Nat} {s l c sh : Int} {A : Option Addr} {n cap : Nat} {rt rq rv : Int} {P : Option Addr} {p pc : Nat} {Q : Option Addr} {q qc : Nat} {ct cq : Int} {u u' : Value} {ps : List (Int × Int)} {os : List Opn} (h : LW w wr S B s l c sh A n cap rt rq rv P p pc Q q qc ct cq u u' ps os) (v : Int) :
    LV w (((wr.setCell ⟨S, 0, none⟩ (.int .i64 ct)).setCell ⟨S, 1, none⟩ (.int .i64 cq)).setCell ⟨S, 2, none⟩ (.int .i64 v)) S B s l c sh A n cap ct cq v u u' os := by
  have hlo := h.hlo
  have hBS := h.hBS
  have hw : w.heap.size ≤ S := by omega
  refine ⟨((h.bel.setCell (p := ⟨S, 0, none⟩) hw _).setCell (p := ⟨S, 1, none⟩) hw _).setCell (p := ⟨S, 2, none⟩) hw _, ?_, ?_, ?_, ((h.Y.set 0 _).set 1 _).set 2 _, hlo, hBS, ((h.V.farHi (Nat.le_refl _) 0 _).farHi (Nat.le_refl _) 1 _).farHi (Nat.le_refl _) 2 _⟩
  · exact ((h.G.far (p := ⟨S, 0, none⟩) (by show S ≠ _; omega) _).far (p := ⟨S, 1, none⟩) (by show S ≠ _; omega) _).far (p := ⟨S, 2, none⟩) (by show S ≠ _; omega) _
  · exact ((h.T.far (p := ⟨S, 0, none⟩) (by show S ≠ _; omega) _).far (p := ⟨S, 1, none⟩) (by show S ≠ _; omega) _).far (p := ⟨S, 2, none⟩) (by show S ≠ _; omega) _
  · exact ((h.X.far (p := ⟨S, 0, none⟩) (by show S ≠ _; omega) _).far (p := ⟨S, 1, none⟩) (by show S ≠ _; omega) _).far (p := ⟨S, 2, none⟩) (by show S ≠ _; omega) _
end Go.Proofs.YtmooajppfjglaaaGreat

/- Written: the program's and the model's: contracts of each of them. -/
namespace Go.Proofs.YtmooajppfjglaaaGreat
open Go.RowKit

theorem slc_pairs {w : World} {P : Option Addr} {p pc : Nat} {ps : List (Int × Int)} (h : Slc w (.slice P p pc) ps) : Pairs w w.heap.size P p ps := by
  rcases h with ⟨e, rfl⟩ | ⟨b, o, n, cap, e, hp⟩
  · injection e with e1 e2 _
    subst e1 e2
    exact ⟨rfl, fun h => absurd h (by omega)⟩
  · injection e with e1 e2 _
    subst e1 e2
    exact hp
theorem slcQ_quads {w : World} {P : Option Addr} {p pc : Nat} {os : List Opn} (h : SlcQ w (.slice P p pc) os) : Quads w w.heap.size P p os := by
  rcases h with ⟨e, rfl⟩ | ⟨b, o, n, cap, e, _, _, hp⟩
  · injection e with e1 e2 _
    subst e1 e2
    exact quads_nil _ _ _
  · injection e with e1 e2 _
    subst e1 e2
    exact hp

/-- What Written answers: a stamp, a value, seals, opens, a flag. -/
structure Out where
  t : Int
  q : Int
  v : Int
  cs : List (Int × Int)
  os : List Opn
  f : Bool
def outW (s l c sh : Int) (zs : List Int) (x rt rq rv : Int) (ps : List (Int × Int)) (os : List Opn) (ct cq v : Int) (cs : List (Int × Int)) : Out :=
  if regB s l c sh zs x rt rq rv ps os = false then ⟨0, 0, 0, [], [], false⟩
  else if wrtB s l c sh zs x ct cq v cs = false then ⟨rt, rq, rv, ps, os, false⟩
  else if cmpN ct cq rt rq = 1 then ⟨ct, cq, v, goodP (rB s l c sh zs 1 x ct cq v) cs, os, true⟩
  else ⟨rt, rq, rv, ps, os, true⟩
theorem reg_stamp {s l c sh : Int} {zs : List Int} {x rt rq rv : Int} {ps : List (Int × Int)} {os : List Opn} (h : regB s l c sh zs x rt rq rv ps os = true) : stB rt rq = true := by
  unfold regB at h
  rw [Bool.and_eq_true, ← lefB_spec] at h
  have := h.1
  unfold spcB at this
  simp only [Bool.and_eq_true] at this
  exact this.1.1.1
theorem cmp_pos {a b c d : Int} (h1 : stB a b = true) (h2 : stB c d = true) : 0 < cmpN a b c d ↔ cmpN a b c d = 1 := by
  rw [cmpN_yes h1 h2]
  have g1 := sgn_bd a c
  have g2 := sgn_bd b d
  unfold orN
  split <;> omega
/-- A shelf and a flag that are answered: its lists lie in blocks of their own. -/
def WrR (w : World) (o : Out) (e : Ending) (w' : World) : Prop :=
  ∃ (B : Nat) (A : Option Addr) (n c : Nat) (A' : Option Addr) (n' c' : Nat), w.heap.size ≤ B ∧ B ≤ w'.heap.size ∧ e = .returned (.tuple #[.agg #[.int .i64 o.t, .int .i64 o.q, .int .i64 o.v, .slice A n c, .slice A' n' c'], .bool o.f]) ∧ ResP w' w.heap.size B (.slice A n c) o.cs ∧ ResO w' B (.slice A' n' c') o.os ∧ Below w.heap.size w w'

set_option maxRecDepth 100000 in
set_option maxHeartbeats 1000000 in
theorem canWrite_is {s l c sh : Int} {zs : List Int} {x ct cq v : Int} {cs : List (Int × Int)} {b : Bool} (hW : wrtB s l c sh zs x ct cq v cs = b) (A : Option Addr) (n cap : Nat) (L : Option Addr) (m mc : Nat) (w : World) (hm : n ≤ maxLen) (hr : Row w w.heap.size A n zs) (hn : m ≤ 4194304) (h : Pairs w w.heap.size L m cs) :
    Calls Tryz.prog 140 #[.agg #[.int .i64 ct, .int .i64 cq, .int .i64 v, .slice L m mc], .agg #[.int .i64 s, .int .i64 l, .int .i64 c, .int .i64 sh, .slice A n cap], .int .i64 x] w fun e w' => e = .returned (.bool b) ∧ Below w.heap.size w w' := by
  have D := (Box.new w 166 #[.int .i64 ct, .int .i64 cq, .int .i64 v, .slice L m mc]).alloc (.cells #[.int .i64 s, .int .i64 l, .int .i64 c, .int .i64 sh, .slice A n cap] 26)
  have G := Box.new (w.alloc (.cells #[.int .i64 ct, .int .i64 cq, .int .i64 v, .slice L m mc] 166)) 26 #[.int .i64 s, .int .i64 l, .int .i64 c, .int .i64 sh, .slice A n cap]
  have E := bel_trans (bel_alloc w (.cells #[.int .i64 ct, .int .i64 cq, .int .i64 v, .slice L m mc] 166)) (bel_alloc _ (.cells #[.int .i64 s, .int .i64 l, .int .i64 c, .int .i64 sh, .slice A n cap] 26))
  simp only [World.size_alloc] at G
  have HR := Lib.hid ((hr.below E (Nat.le_refl _)).more E.size)
  have HP := Lib.hid (h.later E)
  have HM := Lib.hid hm
  have HW := Lib.hid hW
  clear hr hm h hW
  rcases zero_cases ct cq with ⟨rfl, rfl⟩ | ⟨hcase, hnz⟩
  · have HB : Hid (b = false) := Lib.hid (by rw [← HW.out]; exact wrt_zero _ _ _ _ _ _ _ _)
    go_enter Tryz.func140, Tryz.ntmps140
    go_wp2
    go_ret
    exact ⟨by rw [HB.out]; rfl, E⟩
  · have HPB : Hid (proB s l c sh zs x ct cq v cs = b) := Lib.hid (by rw [← HW.out]; unfold wrtB; simp [hnz])
    clear hnz
    rcases hcase with h1 | ⟨h1, h2⟩
    all_goals
      go_enter Tryz.func140, Tryz.ntmps140
      go_wp2_with fail
      generalize ((w.alloc _).alloc _ : World) = w0 at D G E HR HP ⊢
      refine (provenR_is HPB.out A n cap L m mc w0 HM.out HR.out hn HP.out).mono ?_
      rintro e w1 ⟨rfl, hb1⟩
      have E1 := bel_trans E hb1
      go_wp2
      go_ret
      exact ⟨rfl, E1⟩

end Go.Proofs.YtmooajppfjglaaaGreat

/- Written: what the program answers: its contract; and the model's. -/
namespace Go.Proofs.YtmooajppfjglaaaGreat
open Go.RowKit

theorem regOkB_is {s l c sh : Int} {zs : List Int} {x rt rq rv : Int} {ps : List (Int × Int)} {os : List Opn} {b : Bool} (hB : regB s l c sh zs x rt rq rv ps os = b) (A : Option Addr) (n cap : Nat) (P : Option Addr) (p pc : Nat) (Q : Option Addr) (q qc : Nat) (w : World) (hm : n ≤ maxLen) (hr : Row w w.heap.size A n zs) (hp : p ≤ 4194304) (hq : q ≤ 4194304) (h1 : Pairs w w.heap.size P p ps) (h2 : Quads w w.heap.size Q q os) :
    Calls Tryz.prog 139 #[.agg #[.int .i64 s, .int .i64 l, .int .i64 c, .int .i64 sh, .slice A n cap], .int .i64 x, .agg #[.int .i64 rt, .int .i64 rq, .int .i64 rv, .slice P p pc, .slice Q q qc]] w fun e w' => e = .returned (.bool b) ∧ Below w.heap.size w w' := hB ▸ regOk_is s l c sh A n cap zs x rt rq rv P p pc Q q qc ps os w hm hr hp hq h1 h2
/-- A shelf that reg answered is laid into the variable of the answer. -/
theorem wrr_put {w wc w' : World} {o : Out} {B R : Nat} {A : Option Addr} {n c : Nat} {A' : Option Addr} {n' c' : Nat} (E : Below w.heap.size w wc) (hR0 : w.heap.size ≤ R) (hR : R < wc.heap.size) (hB : wc.heap.size ≤ B) (hB' : B ≤ w'.heap.size) (h1 : ResP w' wc.heap.size B (.slice A n c) o.cs) (h2 : ResO w' B (.slice A' n' c') o.os) (hb : Below wc.heap.size wc w') (x0 x1 x2 x3 x4 : Value) :
    WrR w o (.returned (.tuple #[.agg #[.int .i64 o.t, .int .i64 o.q, .int .i64 o.v, .slice A n c, .slice A' n' c'], .bool o.f])) (((((w'.setCell ⟨R, 0, none⟩ x0).setCell ⟨R, 1, none⟩ x1).setCell ⟨R, 2, none⟩ x2).setCell ⟨R, 3, none⟩ x3).setCell ⟨R, 4, none⟩ x4) :=
  ⟨B, A, n, c, A', n', c', Nat.le_trans E.size hB, by simp only [size_set]; exact hB', rfl, (h1.far5 hR x0 x1 x2 x3 x4).wide E.size (Nat.le_refl _), h2.far5 (by omega) x0 x1 x2 x3 x4, bel_five (bel_trans E hb) hR0 x0 x1 x2 x3 x4⟩

/-- What Written keeps: the group, the variable of the answer, the board, what is next. -/
structure WB (w wr : World) (a b : Nat) (s l c sh : Int) (A : Option Addr) (n cap : Nat) (y n4 : Array Value) : Prop where
  bel : Below w.heap.size w wr
  G : Box wr w.heap.size 26 #[.int .i64 s, .int .i64 l, .int .i64 c, .int .i64 sh, .slice A n cap]
  X : Box wr (w.heap.size + 1 + 1 + 1) 40 #[.int .i64 0, .int .i64 0, .int .i64 0, .slice none 0 0, .slice none 0 0]
  Y : Box wr a 168 y
  N : Box wr b 166 n4
  ha : w.heap.size + 1 + 1 + 1 < a
  hab : a < b
theorem WB.later {w wr w' : World} {a b : Nat} {s l c sh : Int} {A : Option Addr} {n cap : Nat} {y n4 : Array Value} (h : WB w wr a b s l c sh A n cap y n4) (hb : Below wr.heap.size wr w') : WB w w' a b s l c sh A n cap y n4 :=
  ⟨bel_trans h.bel hb, h.G.later hb h.G.lt, h.X.later hb h.X.lt, h.Y.later hb h.Y.lt, h.N.later hb h.N.lt, h.ha, h.hab⟩

set_option maxRecDepth 100000 in
set_option maxHeartbeats 4000000 in
theorem written_is (s l c sh : Int) (A : Option Addr) (n cap : Nat) (zs : List Int) (x rt rq rv : Int) (P : Option Addr) (p pc : Nat) (Q : Option Addr) (q qc : Nat) (ct cq v : Int) (L : Option Addr) (m mc : Nat) (ps : List (Int × Int)) (os : List Opn) (cs : List (Int × Int)) (w : World) (hm : n ≤ maxLen) (hr : Row w w.heap.size A n zs) (hp : p ≤ 2000000) (hq : q ≤ 2000000) (h1 : Slc w (.slice P p pc) ps) (h2 : SlcQ w (.slice Q q qc) os) (hn : m ≤ 4194304) (h3 : Pairs w w.heap.size L m cs) :
    Calls Tryz.prog 110 #[.agg #[.int .i64 s, .int .i64 l, .int .i64 c, .int .i64 sh, .slice A n cap], .int .i64 x, .agg #[.int .i64 rt, .int .i64 rq, .int .i64 rv, .slice P p pc, .slice Q q qc], .agg #[.int .i64 ct, .int .i64 cq], .int .i64 v, .slice L m mc] w (WrR w (outW s l c sh zs x rt rq rv ps os ct cq v cs)) := by
  have G := (((Box.new w 26 #[.int .i64 s, .int .i64 l, .int .i64 c, .int .i64 sh, .slice A n cap]).alloc (.cells #[.int .i64 rt, .int .i64 rq, .int .i64 rv, .slice P p pc, .slice Q q qc] 40)).alloc (.cells #[.int .i64 ct, .int .i64 cq] 36)).alloc (.cells #[.int .i64 0, .int .i64 0, .int .i64 0, .slice none 0 0, .slice none 0 0] 40)
  have D := ((Box.new (w.alloc (.cells #[.int .i64 s, .int .i64 l, .int .i64 c, .int .i64 sh, .slice A n cap] 26)) 40 #[.int .i64 rt, .int .i64 rq, .int .i64 rv, .slice P p pc, .slice Q q qc]).alloc (.cells #[.int .i64 ct, .int .i64 cq] 36)).alloc (.cells #[.int .i64 0, .int .i64 0, .int .i64 0, .slice none 0 0, .slice none 0 0] 40)
  have T := (Box.new ((w.alloc (.cells #[.int .i64 s, .int .i64 l, .int .i64 c, .int .i64 sh, .slice A n cap] 26)).alloc (.cells #[.int .i64 rt, .int .i64 rq, .int .i64 rv, .slice P p pc, .slice Q q qc] 40)) 36 #[.int .i64 ct, .int .i64 cq]).alloc (.cells #[.int .i64 0, .int .i64 0, .int .i64 0, .slice none 0 0, .slice none 0 0] 40)
  have X := Box.new (((w.alloc (.cells #[.int .i64 s, .int .i64 l, .int .i64 c, .int .i64 sh, .slice A n cap] 26)).alloc (.cells #[.int .i64 rt, .int .i64 rq, .int .i64 rv, .slice P p pc, .slice Q q qc] 40)).alloc (.cells #[.int .i64 ct, .int .i64 cq] 36)) 40 #[.int .i64 0, .int .i64 0, .int .i64 0, .slice none 0 0, .slice none 0 0]
  have E := bel_trans (bel_trans (bel_trans (bel_alloc w (.cells #[.int .i64 s, .int .i64 l, .int .i64 c, .int .i64 sh, .slice A n cap] 26)) (bel_alloc _ (.cells #[.int .i64 rt, .int .i64 rq, .int .i64 rv, .slice P p pc, .slice Q q qc] 40))) (bel_alloc _ (.cells #[.int .i64 ct, .int .i64 cq] 36))) (bel_alloc _ (.cells #[.int .i64 0, .int .i64 0, .int .i64 0, .slice none 0 0, .slice none 0 0] 40))
  simp only [World.size_alloc] at D T X
  have HLP : Hid (ps.length = p) := Lib.hid (slc_pairs h1).1
  have HLQ : Hid (os.length = q) := Lib.hid (slcQ_quads h2).1
  have HR := Lib.hid hr
  have HM := Lib.hid hm
  have H1 := Lib.hid h1
  have H2 := Lib.hid h2
  have H3 := Lib.hid h3
  clear hr hm h1 h2 h3
  obtain ⟨O, hO⟩ : ∃ O, outW s l c sh zs x rt rq rv ps os ct cq v cs = O := ⟨_, rfl⟩
  rw [hO]
  go_enter Tryz.func110, Tryz.ntmps110
  go_wp2_with fail
  generalize ((((w.alloc _).alloc _).alloc _).alloc _ : World) = w0 at G D T X E ⊢
  rcases hrg : regB s l c sh zs x rt rq rv ps os with _ | _
  · have HO : Hid (O = ⟨0, 0, 0, [], [], false⟩) := Lib.hid (by rw [← hO]; unfold outW; rw [if_pos hrg])
    have HRG := Lib.hid hrg
    clear hrg hO
    refine (regOkB_is HRG.out A n cap P p pc Q q qc w0 HM.out ((HR.out.below E (Nat.le_refl _)).more E.size) (by omega) (by omega) (slc_pairs (H1.out.later E)) (slcQ_quads (H2.out.later E))).mono ?_
    rintro e w1 ⟨rfl, hb1⟩
    have E1 := bel_trans E hb1
    have X1 := X.later hb1 X.lt
    have hX := X.lt
    have hb1s := hb1.size
    have HP : Hid (∀ x0 x1 x2 x3 x4 : Value, WrR w O (.returned (.tuple #[.agg #[.int .i64 0, .int .i64 0, .int .i64 0, .slice none 0 0, .slice none 0 0], .bool false])) (((((w1.setCell ⟨w.heap.size + 1 + 1 + 1, 0, none⟩ x0).setCell ⟨w.heap.size + 1 + 1 + 1, 1, none⟩ x1).setCell ⟨w.heap.size + 1 + 1 + 1, 2, none⟩ x2).setCell ⟨w.heap.size + 1 + 1 + 1, 3, none⟩ x3).setCell ⟨w.heap.size + 1 + 1 + 1, 4, none⟩ x4)) := Lib.hid fun x0 x1 x2 x3 x4 => by
      rw [HO.out]
      exact ⟨w.heap.size, none, 0, 0, none, 0, 0, Nat.le_refl _, by simp only [size_set]; omega, rfl, .inl ⟨rfl, rfl⟩, .inl ⟨rfl, rfl⟩, bel_five E1 (by omega) x0 x1 x2 x3 x4⟩
    obtain ⟨x0, x1, x2, x3, x4⟩ := X1.five
    have fx := X1.frozen
    clear G D T X X1 E E1 hb1
    go_wp2
    exact bodyPost_ret (v := .tuple #[.agg #[.int .i64 0, .int .i64 0, .int .i64 0, .slice none 0 0, .slice none 0 0], .bool false]) (by simp [results, Tryz.results110, go_sem, x0, x1, x2, x3, x4]) rfl (HP.out _ _ _ _ _)
  have HRG := Lib.hid hrg
  refine (regOkB_is HRG.out A n cap P p pc Q q qc w0 HM.out ((HR.out.below E (Nat.le_refl _)).more E.size) (by omega) (by omega) (slc_pairs (H1.out.later E)) (slcQ_quads (H2.out.later E))).mono ?_
  rintro e w1 ⟨rfl, hb1⟩
  have D1 := D.later hb1 D.lt
  obtain ⟨d0, d1, d2, d3, d4⟩ := D1.five
  go_wp2_with fail
  refine (boardOf_is rt rq rv P p pc Q q qc w1).mono ?_
  rintro e w2 ⟨rfl, hb2⟩
  have hb12 := bel_trans hb1 hb2
  have hbA := bel_alloc w2 (.cells #[.int .i64 rt, .int .i64 rq, .int .i64 rv, .slice P p pc, .slice Q q qc] 168)
  have hbB := bel_alloc (w2.alloc (.cells #[.int .i64 rt, .int .i64 rq, .int .i64 rv, .slice P p pc, .slice Q q qc] 168)) (.cells #[.int .i64 ct, .int .i64 cq, .int .i64 v, .slice L m mc] 166)
  have hbAB := bel_trans hbA hbB
  have F := bel_trans hb12 hbAB
  have hX2 := (X.later hb12 X.lt).lt
  have T2 := T.later hb12 T.lt
  have hT2 := T2.lt
  obtain ⟨t0, t1⟩ := T2.two
  have G2 := G.later hb12 G.lt
  have hG2 := G2.lt
  obtain ⟨e0, e1, e2, e3, e4⟩ := G2.five
  have K : WB w ((w2.alloc (.cells #[.int .i64 rt, .int .i64 rq, .int .i64 rv, .slice P p pc, .slice Q q qc] 168)).alloc (.cells #[.int .i64 ct, .int .i64 cq, .int .i64 v, .slice L m mc] 166)) w2.heap.size (w2.heap.size + 1) s l c sh A n cap #[.int .i64 rt, .int .i64 rq, .int .i64 rv, .slice P p pc, .slice Q q qc] #[.int .i64 ct, .int .i64 cq, .int .i64 v, .slice L m mc] := by
    refine ⟨bel_trans E F, G.later F G.lt, X.later F X.lt, (Box.new w2 _ _).alloc _, ?_, hX2, by omega⟩
    have := Box.new (w2.alloc (.cells #[.int .i64 rt, .int .i64 rq, .int .i64 rv, .slice P p pc, .slice Q q qc] 168)) 166 #[.int .i64 ct, .int .i64 cq, .int .i64 v, .slice L m mc]
    simp only [World.size_alloc] at this
    exact this
  clear G D T X E hb1 hb2 hb12 hbA hbB hbAB F D1 d0 d1 d2 d3 d4 T2 G2
  go_wp2_with fail
  generalize ((w2.alloc _).alloc _ : World) = w3 at K ⊢
  generalize w2.heap.size = a at K hX2 hT2 hG2 ⊢
  clear t0 t1 e0 e1 e2 e3 e4 hT2 hG2
  rcases hwr : wrtB s l c sh zs x ct cq v cs with _ | _
  · have HO : Hid (O = ⟨rt, rq, rv, ps, os, false⟩) := Lib.hid (by rw [← hO]; unfold outW; rw [if_neg (by rw [hrg]; simp), if_pos hwr])
    have HWR := Lib.hid hwr
    clear hwr hrg hO
    refine (canWrite_is HWR.out A n cap L m mc w3 HM.out ((HR.out.below K.bel (Nat.le_refl _)).more K.bel.size) hn (H3.out.later K.bel)).mono ?_
    rintro e w4 ⟨rfl, hb4⟩
    replace K := K.later hb4
    clear hb4
    obtain ⟨y0, y1, y2, y3, y4⟩ := K.Y.five
    have hX4 := K.X.lt
    go_wp2_with fail
    refine (reg_is rt rq rv P p pc Q q qc ps os w4 (by rw [HLP.out]; omega) (by rw [HLQ.out]; omega) (H1.out.later K.bel) (H2.out.later K.bel)).mono ?_
    rintro e w5 ⟨B, u, u', hB, hB', rfl, hR1, hR2, hb5⟩
    obtain ⟨A5, c5, rfl, -, -, -, -⟩ := hR1.form
    obtain ⟨A6, c6, rfl, -, -, -, -⟩ := hR2.form
    have X5 := K.X.later hb5 K.X.lt
    obtain ⟨x0, x1, x2, x3, x4⟩ := X5.five
    have fx := X5.frozen
    have HP := Lib.hid (wrr_put (o := ⟨rt, rq, rv, ps, os, false⟩) (R := w.heap.size + 1 + 1 + 1) K.bel (by omega) hX4 hB hB' hR1 hR2 hb5)
    rw [← HO.out] at HP
    clear hR1 hR2 K y0 y1 y2 y3 y4 X5
    go_wp2
    exact bodyPost_ret (v := .tuple #[.agg #[.int .i64 rt, .int .i64 rq, .int .i64 rv, .slice A5 ps.length c5, .slice A6 os.length c6], .bool false]) (by simp [results, Tryz.results110, go_sem, x0, x1, x2, x3, x4]) rfl (by have := HP.out; rw [HO.out] at this ⊢; exact this _ _ _ _ _)
  have HWR := Lib.hid hwr
  refine (canWrite_is HWR.out A n cap L m mc w3 HM.out ((HR.out.below K.bel (Nat.le_refl _)).more K.bel.size) hn (H3.out.later K.bel)).mono ?_
  rintro e w4 ⟨rfl, hb4⟩
  replace K := K.later hb4
  clear hb4
  obtain ⟨y0, y1, y2, y3, y4⟩ := K.Y.five
  obtain ⟨n0, n1, n2, n3⟩ := K.N.four
  go_wp2_with fail
  refine (newer_any ct cq rt rq w4).mono ?_
  rintro e w5 ⟨rfl, hb5⟩
  replace K := K.later hb5
  clear hb5 y0 y1 y2 y3 y4 n0 n1 n2 n3
  rcases hcm : cmpN ct cq rt rq == 1 with _ | _
  · have HO : Hid (O = ⟨rt, rq, rv, ps, os, true⟩) := Lib.hid (by rw [← hO]; unfold outW; rw [if_neg (by rw [hrg]; simp), if_neg (by rw [hwr]; simp), if_neg (by simpa using hcm)])
    clear hwr hrg hO
    obtain ⟨y0, y1, y2, y3, y4⟩ := K.Y.five
    have hX4 := K.X.lt
    go_wp2_with fail
    refine (reg_is rt rq rv P p pc Q q qc ps os w5 (by rw [HLP.out]; omega) (by rw [HLQ.out]; omega) (H1.out.later K.bel) (H2.out.later K.bel)).mono ?_
    rintro e w6 ⟨B, u, u', hB, hB', rfl, hR1, hR2, hb5⟩
    obtain ⟨A5, c5, rfl, -, -, -, -⟩ := hR1.form
    obtain ⟨A6, c6, rfl, -, -, -, -⟩ := hR2.form
    have X5 := K.X.later hb5 K.X.lt
    obtain ⟨x0, x1, x2, x3, x4⟩ := X5.five
    have fx := X5.frozen
    have HP := Lib.hid (wrr_put (o := ⟨rt, rq, rv, ps, os, true⟩) (R := w.heap.size + 1 + 1 + 1) K.bel (by omega) hX4 hB hB' hR1 hR2 hb5)
    rw [← HO.out] at HP
    clear hR1 hR2 K y0 y1 y2 y3 y4 X5
    go_wp2
    exact bodyPost_ret (v := .tuple #[.agg #[.int .i64 rt, .int .i64 rq, .int .i64 rv, .slice A5 ps.length c5, .slice A6 os.length c6], .bool true]) (by simp [results, Tryz.results110, go_sem, x0, x1, x2, x3, x4]) rfl (by have := HP.out; rw [HO.out] at this ⊢; exact this _ _ _ _ _)
  · have hz := (wrt_parts hwr).2.2.1
    have HLS : Hid (lefS s l c sh zs x ct cq v cs = goodP (rB s l c sh zs 1 x ct cq v) cs) := Lib.hid (by unfold lefS; rw [if_neg hz])
    have HO : Hid (O = ⟨ct, cq, v, goodP (rB s l c sh zs 1 x ct cq v) cs, os, true⟩) := Lib.hid (by rw [← hO]; unfold outW; rw [if_neg (by rw [hrg]; simp), if_neg (by rw [hwr]; simp), if_pos (by simpa using hcm)])
    clear hwr hrg hO hz
    obtain ⟨n0, n1, n2, n3⟩ := K.N.four
    obtain ⟨g0, g1, g2, g3, g4⟩ := K.G.five
    go_wp2_with fail
    refine (leftSeals_is s l c sh A n cap zs x ct cq v L m mc cs w5 HM.out ((HR.out.below K.bel (Nat.le_refl _)).more K.bel.size) hn (H3.out.later K.bel)).mono ?_
    rintro e w6 ⟨u, rfl, hOw⟩
    rw [HLS.out] at hOw
    obtain ⟨J, hJ⟩ : ∃ J, goodP (rB s l c sh zs 1 x ct cq v) cs = J := ⟨_, rfl⟩
    rw [hJ] at hOw HO
    have hJl : J.length ≤ 4194304 := by
      rw [← hJ]
      have := goodP_le (rB s l c sh zs 1 x ct cq v) cs
      rw [H3.out.1] at this
      omega
    obtain ⟨Au, nu, cu, rfl⟩ := slc_form hOw.slc
    have K6 := K.later hOw.2
    have hs5 := K.N.lt
    have hRs := hOw.res (lo := w5.heap.size) (Nat.le_refl _)
    clear K hJ n0 n1 n2 n3 g0 g1 g2 g3 g4
    obtain ⟨n0, n1, n2, n3⟩ := K6.N.four
    obtain ⟨y0, y1, y2, y3, y4⟩ := K6.Y.five
    have fn := K6.N.frozen
    have fy := K6.Y.frozen
    have hab := K6.hab
    have ha := K6.ha
    have hNl := K6.N.lt
    have hX6 := K6.X.lt
    -- the board, behind what is written on it
    have Y7 := Lib.hid ((((K6.Y.far (p := ⟨a + 1, 3, none⟩) (by show a + 1 ≠ a; omega) (.slice Au nu cu)).set 0 (.int .i64 ct)).set 1 (.int .i64 cq)).set 2 (.int .i64 v) |>.set 3 (.slice Au nu cu))
    have X7 := Lib.hid (((((K6.X.far (p := ⟨a + 1, 3, none⟩) (by show a + 1 ≠ _; omega) (.slice Au nu cu)).far (p := ⟨a, 0, none⟩) (by show a ≠ _; omega) (.int .i64 ct)).far (p := ⟨a, 1, none⟩) (by show a ≠ _; omega) (.int .i64 cq)).far (p := ⟨a, 2, none⟩) (by show a ≠ _; omega) (.int .i64 v)).far (p := ⟨a, 3, none⟩) (by show a ≠ _; omega) (.slice Au nu cu))
    have E7 := Lib.hid (((((K6.bel.setCell (p := ⟨a + 1, 3, none⟩) (by show _ ≤ a + 1; omega) (.slice Au nu cu)).setCell (p := ⟨a, 0, none⟩) (by show _ ≤ a; omega) (.int .i64 ct)).setCell (p := ⟨a, 1, none⟩) (by show _ ≤ a; omega) (.int .i64 cq)).setCell (p := ⟨a, 2, none⟩) (by show _ ≤ a; omega) (.int .i64 v)).setCell (p := ⟨a, 3, none⟩) (by show _ ≤ a; omega) (.slice Au nu cu))
    have R7 := Lib.hid (((((hRs.far (b := a + 1) (by omega) 3 (.slice Au nu cu)).far (b := a) (by omega) 0 (.int .i64 ct)).far (b := a) (by omega) 1 (.int .i64 cq)).far (b := a) (by omega) 2 (.int .i64 v)).far (b := a) (by omega) 3 (.slice Au nu cu))
    clear K6 hRs hOw
    go_upto_region 10 with fail
    generalize (((((w6.setCell _ _).setCell _ _).setCell _ _).setCell _ _).setCell _ _ : World) = w7 at Y7 X7 E7 R7 ⊢
    have Y8 : Box w7 a 168 #[.int .i64 ct, .int .i64 cq, .int .i64 v, .slice Au nu cu, .slice Q q qc] := Y7.out
    have X8 := X7.out
    clear y0 y1 y2 y3 y4 n0 n1 n2 n3 fn fy Y7 X7
    obtain ⟨y0, y1, y2, y3, y4⟩ := Y8.five
    have hX8 := X8.lt
    go_wp2_with fail
    refine (reg_is ct cq v Au nu cu Q q qc J os w7 hJl (by rw [HLQ.out]; omega) R7.out.slc (H2.out.later E7.out)).mono ?_
    rintro e w8 ⟨B, u, u', hB, hB', rfl, hR1, hR2, hb5⟩
    obtain ⟨A5, c5, rfl, -, -, -, -⟩ := hR1.form
    obtain ⟨A6, c6, rfl, -, -, -, -⟩ := hR2.form
    have X5 := X8.later hb5 X8.lt
    obtain ⟨x0, x1, x2, x3, x4⟩ := X5.five
    have fx := X5.frozen
    have HP := Lib.hid (wrr_put (o := ⟨ct, cq, v, J, os, true⟩) (R := w.heap.size + 1 + 1 + 1) E7.out (by omega) hX8 hB hB' hR1 hR2 hb5)
    rw [← HO.out] at HP
    clear hR1 hR2 y0 y1 y2 y3 y4 X5 Y8 X8 E7 R7
    go_wp2
    exact bodyPost_ret (v := .tuple #[.agg #[.int .i64 ct, .int .i64 cq, .int .i64 v, .slice A5 J.length c5, .slice A6 os.length c6], .bool true]) (by simp [results, Tryz.results110, go_sem, x0, x1, x2, x3, x4]) rfl (by have := HP.out; rw [HO.out] at this ⊢; exact this _ _ _ _ _)

end Go.Proofs.YtmooajppfjglaaaGreat

/- What is written again changes nothing; what is written is never older; mathematics alone; no conditions. -/
namespace Go.Proofs.YtmooajppfjglaaaGreat
open Go.RowKit

theorem puts_mem7 {l : List (Int × Int)} {p : Int × Int} (h : p ∈ puts l) : p ∈ l := by
  have : p ∈ of p.1 (puts l) := mem_of.2 ⟨h, rfl⟩
  rw [puts_of] at this
  exact (mem_of.1 (List.mem_of_mem_take this)).1
theorem puts_ssrt7 {J : List (Int × Int)} (h : SSrt J) : puts J = J := by
  refine same_eq (puts_srt _).srt h.srt fun k => ?_
  rw [puts_of, List.take_of_length_le (ssrt_of h k)]
theorem goodP_twice (R : Int × Int → Bool) (ps : List (Int × Int)) : goodP R (goodP R ps) = goodP R ps := by
  have hf : (goodP R ps).filter R = goodP R ps := by
    rw [List.filter_eq_self]
    intro p hp
    have := puts_mem7 hp
    simpa using (List.mem_filter.1 this).2
  show puts ((goodP R ps).filter R) = goodP R ps
  rw [hf]
  exact puts_ssrt7 (puts_srt _)
theorem cer_left {s l c sh : Int} {zs : List Int} {ck ch ct cq cv : Int} {ps : List (Int × Int)} (h : cerB s l c sh zs ck ch ct cq cv ps = true) :
    cerB s l c sh zs ck ch ct cq cv (goodP (rB s l c sh zs ck ch ct cq cv) ps) = true := by
  simp only [cerB, Bool.and_eq_true, decide_eq_true_eq] at h ⊢
  obtain ⟨⟨hok, h20⟩, hq⟩ := h
  have hle := goodP_le (rB s l c sh zs ck ch ct cq cv) ps
  unfold cntN at hq ⊢
  rw [goodP_twice]
  exact ⟨⟨hok, by omega⟩, hq⟩
theorem cmp_self {a b : Int} (h : stB a b = true) : cmpN a b a b = 0 := by
  rcases cmp_cases a b a b with h' | ⟨_, _, h'⟩ | ⟨h', _⟩ | ⟨_, _, h'⟩
  · rw [cmpN_yes h h] at h'
    have g1 := sgn_bd a a
    have g2 := sgn_bd b b
    unfold orN at h'
    split at h' <;> omega
  · rcases h' with h' | h' <;> exact absurd rfl h'
  · exact h'
  · rcases h' with h' | h' <;> exact absurd rfl h'

/-- What is written is right, is newer or the same, and writes to itself. -/
theorem outW_again {s l c sh : Int} {zs : List Int} {x rt rq rv : Int} {ps : List (Int × Int)} {os : List Opn} {ct cq v : Int} {cs : List (Int × Int)} {O : Out} (hr : regB s l c sh zs x rt rq rv ps os = true) (hw : wrtB s l c sh zs x ct cq v cs = true) (hO : outW s l c sh zs x rt rq rv ps os ct cq v cs = O) :
    O.f = true ∧ O.os = os ∧ regB s l c sh zs x O.t O.q O.v O.cs O.os = true ∧ outW s l c sh zs x O.t O.q O.v O.cs O.os ct cq v cs = ⟨O.t, O.q, O.v, O.cs, O.os, true⟩ ∧ (cmpN O.t O.q rt rq = 0 ∨ cmpN O.t O.q rt rq = 1) ∧ (cmpN O.t O.q ct cq = 0 ∨ cmpN O.t O.q ct cq = 1) ∧ O.cs.length ≤ ps.length + cs.length := by
  have hrs := reg_stamp hr
  obtain ⟨hcs, _, hnz, hpro⟩ := wrt_parts hw
  unfold outW at hO
  rw [if_neg (by rw [hr]; simp), if_neg (by rw [hw]; simp)] at hO
  by_cases hc : cmpN ct cq rt rq = 1
  · rw [if_pos hc] at hO
    subst hO
    have hcer : cerB s l c sh zs 1 x ct cq v cs = true := by
      simp only [proB, Bool.and_eq_true, Bool.or_eq_true, decide_eq_true_eq] at hpro
      rcases hpro.2 with h | h
      · exact absurd h.1 hnz
      · exact h
    have hreg : regB s l c sh zs x ct cq v (goodP (rB s l c sh zs 1 x ct cq v) cs) os = true := by
      simp only [regB, Bool.and_eq_true] at hr ⊢
      refine ⟨?_, hr.2⟩
      simp only [lefB, Bool.and_eq_true, decide_eq_true_eq]
      refine ⟨?_, ?_⟩
      · simp only [proB, Bool.and_eq_true, Bool.or_eq_true] at hpro ⊢
        exact ⟨hpro.1, .inr (cer_left hcer)⟩
      · unfold lefS
        rw [if_neg hnz, goodP_twice]
    refine ⟨rfl, rfl, hreg, ?_, .inr hc, .inl (cmp_self hcs), ?_⟩
    · show outW s l c sh zs x ct cq v (goodP (rB s l c sh zs 1 x ct cq v) cs) os ct cq v cs = _
      unfold outW
      rw [if_neg (by rw [hreg]; simp), if_neg (by rw [hw]; simp), if_neg (by rw [cmp_self hcs]; omega)]
    · show (goodP (rB s l c sh zs 1 x ct cq v) cs).length ≤ _
      have := goodP_le (rB s l c sh zs 1 x ct cq v) cs
      omega
  · rw [if_neg hc] at hO
    subst hO
    refine ⟨rfl, rfl, hr, ?_, .inl (cmp_self hrs), ?_, by simp⟩
    · show outW s l c sh zs x rt rq rv ps os ct cq v cs = _
      unfold outW
      rw [if_neg (by rw [hr]; simp), if_neg (by rw [hw]; simp), if_neg hc]
    · show cmpN rt rq ct cq = 0 ∨ cmpN rt rq ct cq = 1
      rcases cmp_cases ct cq rt rq with h | ⟨_, h, _⟩ | ⟨h, h1, h2⟩ | ⟨h, _⟩
      · rw [cmpN_yes hcs hrs] at h
        have g1 := sgn_bd ct rt
        have g2 := sgn_bd cq rq
        unfold orN at h
        split at h <;> omega
      · exact .inr h
      · subst h1 h2
        exact .inl (cmp_self hrs)
      · exact absurd h hc
/-- What is answered is no longer than what came in. -/
theorem outW_len {s l c sh : Int} {zs : List Int} {x rt rq rv : Int} {ps : List (Int × Int)} {os : List Opn} {ct cq v : Int} {cs : List (Int × Int)} {O : Out} (hO : outW s l c sh zs x rt rq rv ps os ct cq v cs = O) : O.cs.length ≤ ps.length + cs.length ∧ O.os.length ≤ os.length := by
  subst hO
  unfold outW
  split
  · simp
  split
  · simp
  split
  · have := goodP_le (rB s l c sh zs 1 x ct cq v) cs
    show (goodP (rB s l c sh zs 1 x ct cq v) cs).length ≤ _ ∧ _
    exact ⟨by omega, Nat.le_refl _⟩
  · simp

end Go.Proofs.YtmooajppfjglaaaGreat

/- RecOk of the program at every group and record; conditions: the lists' sizes are such as memory holds. -/
namespace Go.Proofs.YtmooajppfjglaaaGreat
open Go Go.RowKit

/-- What a record asks by its kind; what RecOk answers. -/
def kndB (s l c sh : Int) (zs : List Int) (r2 r3 r4 r5 r6 r7 : Int) (ps : List (Int × Int)) : Bool :=
  if r2 = 1 then decide (ps = []) && opnB s l c sh zs (r4, r5, r6, r7)
  else if r2 = 2 then decide (r4 = 0) && !decide (r5 = 0 ∧ r6 = 0) && lefB s l c sh zs r3 r5 r6 r7 ps
  else false
def rokB (s l c sh : Int) (zs : List Int) (r1 r2 r3 r4 r5 r6 r7 : Int) (ps : List (Int × Int)) (r8 : Int) : Bool :=
  inB r1 1 400 && shfB s l c sh zs r3 && kndB s l c sh zs r2 r3 r4 r5 r6 r7 ps && (r8 == sumN r1 r2 r3 r4 r5 r6 r7 ps)

theorem sumOfB_is {r1 r2 r3 r4 r5 r6 r7 : Int} {ps : List (Int × Int)} {z : Int} (hz : sumN r1 r2 r3 r4 r5 r6 r7 ps = z) (L : Option Addr) (m mc : Nat) (r8 : Int) (w : World) (hm : m ≤ 4194304) (hr : Pairs w w.heap.size L m ps) :
    Calls Tryz.prog 125 #[.agg #[.int .i64 r1, .int .i64 r2, .int .i64 r3, .int .i64 r4, .int .i64 r5, .int .i64 r6, .int .i64 r7, .slice L m mc, .int .i64 r8]] w fun e w' => e = .returned (.int .i64 z) ∧ Below w.heap.size w w' := hz ▸ sumOf_is r1 r2 r3 r4 r5 r6 r7 L m mc r8 ps w hm hr

theorem withinR_is {x lo hi : Int} {b : Bool} (h : inB x lo hi = b) (w : World) : Calls Tryz.prog 117 #[.int .i64 x, .int .i64 lo, .int .i64 hi] w fun e w' => e = .returned (.bool b) ∧ w = w' := h ▸ within_any x lo hi w
theorem recOpen_is (r1 r2 r3 r4 r5 r6 r7 : Int) (L : Option Addr) (m mc : Nat) (r8 : Int) (w : World) :
    Calls Tryz.prog 109 #[.agg #[.int .i64 r1, .int .i64 r2, .int .i64 r3, .int .i64 r4, .int .i64 r5, .int .i64 r6, .int .i64 r7, .slice L m mc, .int .i64 r8]] w fun e w' => e = .returned (.agg #[.int .i64 r4, .int .i64 r5, .int .i64 r6, .int .i64 r7]) ∧ Below w.heap.size w w' := by
  go_enter Tryz.func109, Tryz.ntmps109
  go_wp2
  exact bodyPost_ret (v := .agg #[.int .i64 r4, .int .i64 r5, .int .i64 r6, .int .i64 r7]) (by simp [results, Tryz.results109, go_sem]) rfl ⟨rfl, by
    repeat (first | (with_reducible exact bel_trans (bel_alloc _ _) (bel_alloc _ _)) | refine Below.setCell ?_ (by simp; try omega) _)⟩
theorem recNewest_is (r1 r2 r3 r4 r5 r6 r7 : Int) (L : Option Addr) (m mc : Nat) (r8 : Int) (w : World) :
    Calls Tryz.prog 155 #[.agg #[.int .i64 r1, .int .i64 r2, .int .i64 r3, .int .i64 r4, .int .i64 r5, .int .i64 r6, .int .i64 r7, .slice L m mc, .int .i64 r8]] w fun e w' => e = .returned (.agg #[.int .i64 r5, .int .i64 r6, .int .i64 r7, .slice L m mc]) ∧ Below w.heap.size w w' := by
  go_enter Tryz.func155, Tryz.ntmps155
  go_wp2
  exact bodyPost_ret (v := .agg #[.int .i64 r5, .int .i64 r6, .int .i64 r7, .slice L m mc]) (by simp [results, Tryz.results155, go_sem]) rfl ⟨rfl, by
    repeat (first | (with_reducible exact bel_trans (bel_alloc _ _) (bel_alloc _ _)) | refine Below.setCell ?_ (by simp; try omega) _)⟩

set_option maxRecDepth 100000 in
set_option maxHeartbeats 4000000 in
theorem kindOk_is {s l c sh : Int} {zs : List Int} {r2 r3 r4 r5 r6 r7 : Int} {ps : List (Int × Int)} {b : Bool} (hb : kndB s l c sh zs r2 r3 r4 r5 r6 r7 ps = b) (A : Option Addr) (n cap : Nat) (r1 : Int) (L : Option Addr) (m mc : Nat) (r8 : Int) (w : World) (hn : n ≤ maxLen) (hr : Row w w.heap.size A n zs) (hm : m ≤ 4194304) (hp : Pairs w w.heap.size L m ps) :
    Calls Tryz.prog 127 #[.agg #[.int .i64 r1, .int .i64 r2, .int .i64 r3, .int .i64 r4, .int .i64 r5, .int .i64 r6, .int .i64 r7, .slice L m mc, .int .i64 r8], .agg #[.int .i64 s, .int .i64 l, .int .i64 c, .int .i64 sh, .slice A n cap]] w fun e w' => e = .returned (.bool b) ∧ Below w.heap.size w w' := by
  have D := (Box.new w 42 #[.int .i64 r1, .int .i64 r2, .int .i64 r3, .int .i64 r4, .int .i64 r5, .int .i64 r6, .int .i64 r7, .slice L m mc, .int .i64 r8]).alloc (.cells #[.int .i64 s, .int .i64 l, .int .i64 c, .int .i64 sh, .slice A n cap] 26)
  have G := Box.new (w.alloc (.cells #[.int .i64 r1, .int .i64 r2, .int .i64 r3, .int .i64 r4, .int .i64 r5, .int .i64 r6, .int .i64 r7, .slice L m mc, .int .i64 r8] 42)) 26 #[.int .i64 s, .int .i64 l, .int .i64 c, .int .i64 sh, .slice A n cap]
  have E := bel_trans (bel_alloc w (.cells #[.int .i64 r1, .int .i64 r2, .int .i64 r3, .int .i64 r4, .int .i64 r5, .int .i64 r6, .int .i64 r7, .slice L m mc, .int .i64 r8] 42)) (bel_alloc _ (.cells #[.int .i64 s, .int .i64 l, .int .i64 c, .int .i64 sh, .slice A n cap] 26))
  simp only [World.size_alloc] at G
  have HR := Lib.hid ((hr.below E (Nat.le_refl _)).more E.size)
  have HP := Lib.hid (hp.later E)
  have HL := Lib.hid hp.1
  have HM := Lib.hid hn
  have HB := Lib.hid hb
  clear hr hn hp hb
  go_enter Tryz.func127, Tryz.ntmps127
  go_upto_region 1 with fail
  generalize ((w.alloc _).alloc _ : World) = w0 at D G E HR HP ⊢
  have d1 := D.cell 1
  by_cases h1 : r2 = 1
  · subst h1
    go_upto_region 3 with fail
    clear d1
    obtain ⟨f0, f1, f2, f3, f4, f5, f6, f7, f8⟩ := nineAfter D
    obtain ⟨e0, e1, e2, e3, e4⟩ := fiveAfter G
    rcases Nat.eq_zero_or_pos m with hz | hz
    · have HO : Hid (opnB s l c sh zs (r4, r5, r6, r7) = b) := Lib.hid (by
        have : ps = [] := List.eq_nil_of_length_eq_zero (HL.out.trans hz)
        rw [← HB.out]; unfold kndB; simp [this])
      subst hz
      refine wp_region_after (by kernel_rfl) (by kernel_rfl) ?_
      repeat (first
        | go_big_quiet_step (first | (go_at_call 109; exact after_of (recOpen_is _ _ _ _ _ _ _ _ _ _ _ _)) | (go_at_call 154; exact after_of (isRightB_is HO.out A n cap _ HM.out (rowAfter HR.out _))))
        | quiet_step (first | (go_at_call 109; exact after_of (recOpen_is _ _ _ _ _ _ _ _ _ _ _ _)) | (go_at_call 154; exact after_of (isRightB_is HO.out A n cap _ HM.out (rowAfter HR.out _)))))
      refine wpQuiet_nil ?_
      intro pw
      go_wp2
      go_ret
      exact ⟨rfl, bel_trans E pw.bel⟩
    · have HV : Hid (b = false) := Lib.hid (by
        have : ps ≠ [] := fun e => by have := HL.out; rw [e] at this; simp at this; omega
        rw [← HB.out]; unfold kndB; simp [this])
      have hm0 : ((m : Int) == 0) = false := by simp; omega
      refine wp_region_after (by kernel_rfl) (by kernel_rfl) ?_
      repeat (first | go_big_quiet_step (fail) | quiet_step (fail))
      refine wpQuiet_nil ?_
      intro pw
      go_wp2
      go_ret
      exact ⟨by rw [HV.out]; rfl, bel_trans E pw.bel⟩
  by_cases h2 : r2 = 2
  · subst h2
    go_upto_region 5 with fail
    clear d1
    obtain ⟨f0, f1, f2, f3, f4, f5, f6, f7, f8⟩ := nineAfter D
    obtain ⟨e0, e1, e2, e3, e4⟩ := fiveAfter G
    by_cases h4 : r4 = 0
    · subst h4
      rcases zero_cases r5 r6 with ⟨rfl, rfl⟩ | ⟨hcase, hnz⟩
      · have HV : Hid (b = false) := Lib.hid (by rw [← HB.out]; unfold kndB; simp)
        refine wp_region_after (by kernel_rfl) (by kernel_rfl) ?_
        repeat (first | go_big_quiet_step (fail) | quiet_step (fail))
        refine wpQuiet_nil ?_
        intro pw
        go_wp2
        go_ret
        exact ⟨by rw [HV.out]; rfl, bel_trans E pw.bel⟩
      · have HF : Hid (lefB s l c sh zs r3 r5 r6 r7 ps = b) := Lib.hid (by rw [← HB.out]; unfold kndB; simp [hnz])
        clear hnz
        rcases hcase with hx | ⟨hx, hy⟩
        all_goals
          refine wp_region_after (by kernel_rfl) (by kernel_rfl) ?_
          repeat (first
            | go_big_quiet_step (first | (go_at_call 155; exact after_of (recNewest_is _ _ _ _ _ _ _ _ _ _ _ _)) | (go_at_call 156; exact after_of (isLeftB_is HF.out A n cap _ m mc _ HM.out (rowAfter HR.out _) hm (pairsAfter HP.out _))))
            | quiet_step (first | (go_at_call 155; exact after_of (recNewest_is _ _ _ _ _ _ _ _ _ _ _ _)) | (go_at_call 156; exact after_of (isLeftB_is HF.out A n cap _ m mc _ HM.out (rowAfter HR.out _) hm (pairsAfter HP.out _)))))
          refine wpQuiet_nil ?_
          intro pw
          go_wp2
          go_ret
          exact ⟨rfl, bel_trans E pw.bel⟩
    · have HV : Hid (b = false) := Lib.hid (by rw [← HB.out]; unfold kndB; simp [h4])
      have h4' : (r4 == 0) = false := by simpa using h4
      refine wp_region_after (by kernel_rfl) (by kernel_rfl) ?_
      repeat (first | go_big_quiet_step (fail) | quiet_step (fail))
      refine wpQuiet_nil ?_
      intro pw
      go_wp2
      go_ret
      exact ⟨by rw [HV.out]; rfl, bel_trans E pw.bel⟩
  · have HV : Hid (b = false) := Lib.hid (by rw [← HB.out]; unfold kndB; simp [h1, h2])
    have h1' : (r2 == 1) = false := by simpa using h1
    have h2' : (r2 == 2) = false := by simpa using h2
    go_wp2
    go_ret
    exact ⟨by rw [HV.out]; rfl, E⟩

set_option maxRecDepth 100000 in
set_option maxHeartbeats 4000000 in
theorem recOk_is {s l c sh : Int} {zs : List Int} {r1 r2 r3 r4 r5 r6 r7 r8 : Int} {ps : List (Int × Int)} {b : Bool} (hb : rokB s l c sh zs r1 r2 r3 r4 r5 r6 r7 ps r8 = b) (A : Option Addr) (n cap : Nat) (L : Option Addr) (m mc : Nat) (w : World) (hn : n ≤ maxLen) (hr : Row w w.heap.size A n zs) (hm : m ≤ 4194304) (hp : Pairs w w.heap.size L m ps) :
    Calls Tryz.prog 79 #[.agg #[.int .i64 s, .int .i64 l, .int .i64 c, .int .i64 sh, .slice A n cap], .agg #[.int .i64 r1, .int .i64 r2, .int .i64 r3, .int .i64 r4, .int .i64 r5, .int .i64 r6, .int .i64 r7, .slice L m mc, .int .i64 r8]] w fun e w' => e = .returned (.bool b) ∧ Below w.heap.size w w' := by
  have G := (Box.new w 26 #[.int .i64 s, .int .i64 l, .int .i64 c, .int .i64 sh, .slice A n cap]).alloc (.cells #[.int .i64 r1, .int .i64 r2, .int .i64 r3, .int .i64 r4, .int .i64 r5, .int .i64 r6, .int .i64 r7, .slice L m mc, .int .i64 r8] 42)
  have D := Box.new (w.alloc (.cells #[.int .i64 s, .int .i64 l, .int .i64 c, .int .i64 sh, .slice A n cap] 26)) 42 #[.int .i64 r1, .int .i64 r2, .int .i64 r3, .int .i64 r4, .int .i64 r5, .int .i64 r6, .int .i64 r7, .slice L m mc, .int .i64 r8]
  have E := bel_trans (bel_alloc w (.cells #[.int .i64 s, .int .i64 l, .int .i64 c, .int .i64 sh, .slice A n cap] 26)) (bel_alloc _ (.cells #[.int .i64 r1, .int .i64 r2, .int .i64 r3, .int .i64 r4, .int .i64 r5, .int .i64 r6, .int .i64 r7, .slice L m mc, .int .i64 r8] 42))
  simp only [World.size_alloc] at D
  have HR := Lib.hid ((hr.below E (Nat.le_refl _)).more E.size)
  have HP := Lib.hid (hp.later E)
  have HM := Lib.hid hn
  have HB := Lib.hid hb
  clear hr hn hp hb
  go_enter Tryz.func79, Tryz.ntmps79
  go_upto_region 1 with fail
  generalize ((w.alloc _).alloc _ : World) = w0 at D G E HR HP ⊢
  obtain ⟨f0, f1, f2, f3, f4, f5, f6, f7, f8⟩ := nineAfter D
  obtain ⟨e0, e1, e2, e3, e4⟩ := fiveAfter G
  rcases h1 : inB r1 1 400 with _ | _
  · have HV : Hid (b = false) := Lib.hid (by rw [← HB.out]; unfold rokB; simp [h1])
    have H1 := Lib.hid h1
    clear h1
    refine wp_region_after (by kernel_rfl) (by kernel_rfl) ?_
    repeat (first | go_big_quiet_step ((go_at_call 117; exact after_same (withinR_is H1.out _))) | quiet_step ((go_at_call 117; exact after_same (withinR_is H1.out _))))
    refine wpQuiet_nil ?_
    intro pw
    go_wp2
    go_ret
    exact ⟨by rw [HV.out]; rfl, bel_trans E pw.bel⟩
  rcases h2 : shfB s l c sh zs r3 with _ | _
  · have HV : Hid (b = false) := Lib.hid (by rw [← HB.out]; unfold rokB; simp [h2])
    have H1 := Lib.hid h1
    have H2 := Lib.hid h2
    clear h1 h2
    refine wp_region_after (by kernel_rfl) (by kernel_rfl) ?_
    repeat (first | go_big_quiet_step ((first | (go_at_call 117; exact after_same (withinR_is H1.out _)) | (go_at_call 126; exact after_of (isShelfB_is H2.out A n cap _ HM.out (rowAfter HR.out _))))) | quiet_step ((first | (go_at_call 117; exact after_same (withinR_is H1.out _)) | (go_at_call 126; exact after_of (isShelfB_is H2.out A n cap _ HM.out (rowAfter HR.out _))))))
    refine wpQuiet_nil ?_
    intro pw
    go_wp2
    go_ret
    exact ⟨by rw [HV.out]; rfl, bel_trans E pw.bel⟩
  rcases h3 : kndB s l c sh zs r2 r3 r4 r5 r6 r7 ps with _ | _
  · have HV : Hid (b = false) := Lib.hid (by rw [← HB.out]; unfold rokB; simp [h3])
    have H1 := Lib.hid h1
    have H2 := Lib.hid h2
    have H3 := Lib.hid h3
    clear h1 h2 h3
    refine wp_region_after (by kernel_rfl) (by kernel_rfl) ?_
    repeat (first | go_big_quiet_step ((first | (go_at_call 117; exact after_same (withinR_is H1.out _)) | (go_at_call 126; exact after_of (isShelfB_is H2.out A n cap _ HM.out (rowAfter HR.out _))) | (go_at_call 127; exact after_of (kindOk_is H3.out A n cap _ L m mc _ _ HM.out (rowAfter HR.out _) hm (pairsAfter HP.out _))))) | quiet_step ((first | (go_at_call 117; exact after_same (withinR_is H1.out _)) | (go_at_call 126; exact after_of (isShelfB_is H2.out A n cap _ HM.out (rowAfter HR.out _))) | (go_at_call 127; exact after_of (kindOk_is H3.out A n cap _ L m mc _ _ HM.out (rowAfter HR.out _) hm (pairsAfter HP.out _))))))
    refine wpQuiet_nil ?_
    intro pw
    go_wp2
    go_ret
    exact ⟨by rw [HV.out]; rfl, bel_trans E pw.bel⟩
  obtain ⟨z, h4⟩ : ∃ z, sumN r1 r2 r3 r4 r5 r6 r7 ps = z := ⟨_, rfl⟩
  have HV : Hid (b = (r8 == z)) := Lib.hid (by rw [← HB.out]; unfold rokB; simp [h1, h2, h3, h4])
  have H1 := Lib.hid h1
  have H2 := Lib.hid h2
  have H3 := Lib.hid h3
  have H4 := Lib.hid h4
  clear h1 h2 h3 h4
  refine wp_region_after (by kernel_rfl) (by kernel_rfl) ?_
  repeat (first | go_big_quiet_step ((first | (go_at_call 117; exact after_same (withinR_is H1.out _)) | (go_at_call 126; exact after_of (isShelfB_is H2.out A n cap _ HM.out (rowAfter HR.out _))) | (go_at_call 127; exact after_of (kindOk_is H3.out A n cap _ L m mc _ _ HM.out (rowAfter HR.out _) hm (pairsAfter HP.out _))) | (go_at_call 125; exact after_of (sumOfB_is H4.out L m mc _ _ hm (pairsAfter HP.out _))))) | quiet_step ((first | (go_at_call 117; exact after_same (withinR_is H1.out _)) | (go_at_call 126; exact after_of (isShelfB_is H2.out A n cap _ HM.out (rowAfter HR.out _))) | (go_at_call 127; exact after_of (kindOk_is H3.out A n cap _ L m mc _ _ HM.out (rowAfter HR.out _) hm (pairsAfter HP.out _))) | (go_at_call 125; exact after_of (sumOfB_is H4.out L m mc _ _ hm (pairsAfter HP.out _))))))
  refine wpQuiet_nil ?_
  intro pw
  go_wp2
  go_ret
  exact ⟨by rw [HV.out]; rfl, bel_trans E pw.bel⟩

end Go.Proofs.YtmooajppfjglaaaGreat

/- RecOk of the model at every group and record; conditions: the lists' sizes are such as memory holds. -/
namespace Go.Proofs.YtmooajppfjglaaaGreat
open Go Go.RowKit

theorem l1InR_is {x lo hi : Int} {b : Bool} (h : inB x lo hi = b) (w : World) : Calls Tryz.prog 111 #[.int .i64 x, .int .i64 lo, .int .i64 hi] w fun e w' => e = .returned (.bool b) ∧ w = w' := h ▸ l1In_any x lo hi w
theorem specOkR_is {s l c sh : Int} {zs : List Int} {b : Bool} (h : okB s l c sh zs = b) (A : Option Addr) (n cap : Nat) (w : World) (hm : n ≤ maxLen) (hr : Row w w.heap.size A n zs) :
    Calls Tryz.prog 63 #[.agg #[.int .i64 s, .int .i64 l, .int .i64 c, .int .i64 sh, .slice A n cap]] w fun e w' => e = .returned (.bool b) ∧ Below w.heap.size w w' := h ▸ specGroup_any s l c sh A n cap zs w hm hr
theorem specSumOfB_is {r1 r2 r3 r4 r5 r6 r7 : Int} {ps : List (Int × Int)} {z : Int} (hz : sumN r1 r2 r3 r4 r5 r6 r7 ps = z) (L : Option Addr) (m mc : Nat) (r8 : Int) (w : World) (hm : m ≤ 4194304) (hr : Pairs w w.heap.size L m ps) :
    Calls Tryz.prog 101 #[.agg #[.int .i64 r1, .int .i64 r2, .int .i64 r3, .int .i64 r4, .int .i64 r5, .int .i64 r6, .int .i64 r7, .slice L m mc, .int .i64 r8]] w fun e w' => e = .returned (.int .i64 z) ∧ Below w.heap.size w w' := hz ▸ specSumOf_is r1 r2 r3 r4 r5 r6 r7 L m mc r8 ps w hm hr
theorem l7ProvenB_is {s l c sh : Int} {zs : List Int} {x ct cq v : Int} {ps : List (Int × Int)} {b : Bool} (hb : lefB s l c sh zs x ct cq v ps = b) (A : Option Addr) (n cap : Nat) (P : Option Addr) (m pcap : Nat) (w : World) (hm : n ≤ maxLen) (hr : Row w w.heap.size A n zs) (hn : m ≤ 4194304) (h : Pairs w w.heap.size P m ps) :
    Calls Tryz.prog 114 #[.agg #[.int .i64 s, .int .i64 l, .int .i64 c, .int .i64 sh, .slice A n cap], .int .i64 x, .agg #[.int .i64 ct, .int .i64 cq], .int .i64 v, .slice P m pcap] w fun e w' => e = .returned (.bool b) ∧ Below w.heap.size w w' := hb ▸ l7Proven_is s l c sh A n cap zs x ct cq v P m pcap ps w hm hr hn h

set_option maxRecDepth 100000 in
set_option maxHeartbeats 4000000 in
theorem specRecOk_is {s l c sh : Int} {zs : List Int} {r1 r2 r3 r4 r5 r6 r7 r8 : Int} {ps : List (Int × Int)} {b : Bool} (hb : rokB s l c sh zs r1 r2 r3 r4 r5 r6 r7 ps r8 = b) (A : Option Addr) (n cap : Nat) (L : Option Addr) (m mc : Nat) (w : World) (hn : n ≤ maxLen) (hr : Row w w.heap.size A n zs) (hm : m ≤ 4194304) (hp : Pairs w w.heap.size L m ps) :
    Calls Tryz.prog 64 #[.agg #[.int .i64 s, .int .i64 l, .int .i64 c, .int .i64 sh, .slice A n cap], .agg #[.int .i64 r1, .int .i64 r2, .int .i64 r3, .int .i64 r4, .int .i64 r5, .int .i64 r6, .int .i64 r7, .slice L m mc, .int .i64 r8]] w fun e w' => e = .returned (.bool b) ∧ Below w.heap.size w w' := by
  have G := (Box.new w 26 #[.int .i64 s, .int .i64 l, .int .i64 c, .int .i64 sh, .slice A n cap]).alloc (.cells #[.int .i64 r1, .int .i64 r2, .int .i64 r3, .int .i64 r4, .int .i64 r5, .int .i64 r6, .int .i64 r7, .slice L m mc, .int .i64 r8] 42)
  have D := Box.new (w.alloc (.cells #[.int .i64 s, .int .i64 l, .int .i64 c, .int .i64 sh, .slice A n cap] 26)) 42 #[.int .i64 r1, .int .i64 r2, .int .i64 r3, .int .i64 r4, .int .i64 r5, .int .i64 r6, .int .i64 r7, .slice L m mc, .int .i64 r8]
  have E := bel_trans (bel_alloc w (.cells #[.int .i64 s, .int .i64 l, .int .i64 c, .int .i64 sh, .slice A n cap] 26)) (bel_alloc _ (.cells #[.int .i64 r1, .int .i64 r2, .int .i64 r3, .int .i64 r4, .int .i64 r5, .int .i64 r6, .int .i64 r7, .slice L m mc, .int .i64 r8] 42))
  simp only [World.size_alloc] at D
  have HR := Lib.hid ((hr.below E (Nat.le_refl _)).more E.size)
  have HP := Lib.hid (hp.later E)
  have HL := Lib.hid hp.1
  have HM := Lib.hid hn
  have HB := Lib.hid hb
  clear hr hn hp hb
  go_enter Tryz.func64, Tryz.ntmps64
  go_upto_region 1 with fail
  generalize ((w.alloc _).alloc _ : World) = w0 at D G E HR HP ⊢
  obtain ⟨f0, f1, f2, f3, f4, f5, f6, f7, f8⟩ := nineAfter D
  obtain ⟨e0, e1, e2, e3, e4⟩ := fiveAfter G
  rcases h1 : inB r1 1 400 with _ | _
  · have HV : Hid (b = false) := Lib.hid (by rw [← HB.out]; unfold rokB; simp [h1])
    have H1 := Lib.hid h1
    clear h1
    refine wp_region_after (by kernel_rfl) (by kernel_rfl) ?_
    repeat (first | go_big_quiet_step ((go_at_call 111; with_reducible exact after_same (l1InR_is H1.out _))) | quiet_step ((go_at_call 111; with_reducible exact after_same (l1InR_is H1.out _))))
    refine wpQuiet_nil ?_
    intro pw
    go_wp2
    go_ret
    exact ⟨by rw [HV.out]; rfl, bel_trans E pw.bel⟩
  rcases h2 : okB s l c sh zs with _ | _
  · have HV : Hid (b = false) := Lib.hid (by rw [← HB.out]; unfold rokB shfB; simp [h2])
    have H1 := Lib.hid h1
    have H2 := Lib.hid h2
    clear h1 h2
    refine wp_region_after (by kernel_rfl) (by kernel_rfl) ?_
    repeat (first | go_big_quiet_step ((first | (go_at_call 111; with_reducible exact after_same (l1InR_is H1.out _)) | (go_at_call 63; exact after_of (specOkR_is H2.out A n cap _ HM.out (rowAfter HR.out _))))) | quiet_step ((first | (go_at_call 111; with_reducible exact after_same (l1InR_is H1.out _)) | (go_at_call 63; exact after_of (specOkR_is H2.out A n cap _ HM.out (rowAfter HR.out _))))))
    refine wpQuiet_nil ?_
    intro pw
    go_wp2
    go_ret
    exact ⟨by rw [HV.out]; rfl, bel_trans E pw.bel⟩
  obtain ⟨hs1, hs2⟩ := okB_sh h2
  have hw : IntKind.i64.wrap (sh - 1) = sh - 1 := IntWalk.i64_in _ (by omega)
  rcases h3 : inB r3 0 (sh - 1) with _ | _
  · have HV : Hid (b = false) := Lib.hid (by rw [← HB.out]; unfold rokB shfB; simp [h3])
    have H1 := Lib.hid h1
    have H2 := Lib.hid h2
    have H3 := Lib.hid h3
    clear h1 h2 h3
    refine wp_region_after (by kernel_rfl) (by kernel_rfl) ?_
    repeat (first | go_big_quiet_step ((first | (go_at_call 111; with_reducible exact after_same (l1InR_is H1.out _)) | (go_at_call 63; exact after_of (specOkR_is H2.out A n cap _ HM.out (rowAfter HR.out _))) | (go_at_call 111; with_reducible exact after_same (l1InR_is H3.out _)))) | quiet_step ((first | (go_at_call 111; with_reducible exact after_same (l1InR_is H1.out _)) | (go_at_call 63; exact after_of (specOkR_is H2.out A n cap _ HM.out (rowAfter HR.out _))) | (go_at_call 111; with_reducible exact after_same (l1InR_is H3.out _)))))
    refine wpQuiet_nil ?_
    intro pw
    go_wp2
    go_ret
    exact ⟨by rw [HV.out]; rfl, bel_trans E pw.bel⟩
  obtain ⟨z, h4⟩ : ∃ z, sumN r1 r2 r3 r4 r5 r6 r7 ps = z := ⟨_, rfl⟩
  by_cases hz : r8 = z
  case neg =>
    have HV : Hid (b = false) := Lib.hid (by rw [← HB.out]; unfold rokB; simp [h4, hz])
    have hz1 : (r8 != z) = true := by simpa using hz
    have H1 := Lib.hid h1
    have H2 := Lib.hid h2
    have H3 := Lib.hid h3
    have H4 := Lib.hid h4
    clear h1 h2 h3 h4 hz
    refine wp_region_after (by kernel_rfl) (by kernel_rfl) ?_
    repeat (first | go_big_quiet_step ((first | (go_at_call 111; with_reducible exact after_same (l1InR_is H1.out _)) | (go_at_call 63; exact after_of (specOkR_is H2.out A n cap _ HM.out (rowAfter HR.out _))) | (go_at_call 111; with_reducible exact after_same (l1InR_is H3.out _)) | (go_at_call 101; exact after_of (specSumOfB_is H4.out L m mc _ _ hm (pairsAfter HP.out _))))) | quiet_step ((first | (go_at_call 111; with_reducible exact after_same (l1InR_is H1.out _)) | (go_at_call 63; exact after_of (specOkR_is H2.out A n cap _ HM.out (rowAfter HR.out _))) | (go_at_call 111; with_reducible exact after_same (l1InR_is H3.out _)) | (go_at_call 101; exact after_of (specSumOfB_is H4.out L m mc _ _ hm (pairsAfter HP.out _))))))
    refine wpQuiet_nil ?_
    intro pw
    go_wp2
    go_ret
    exact ⟨by rw [HV.out]; rfl, bel_trans E pw.bel⟩
  subst hz
  have HK : Hid (kndB s l c sh zs r2 r3 r4 r5 r6 r7 ps = b) := Lib.hid (by rw [← HB.out]; unfold rokB shfB; simp [h1, h2, h3, h4])
  have hz1 : (r8 != r8) = false := by simp
  have H1 := Lib.hid h1
  have H2 := Lib.hid h2
  have H3 := Lib.hid h3
  have H4 := Lib.hid h4
  clear h1 h2 h3 h4
  refine wp_region_after (by kernel_rfl) (by kernel_rfl) ?_
  repeat (first | go_big_quiet_step ((first | (go_at_call 111; with_reducible exact after_same (l1InR_is H1.out _)) | (go_at_call 63; exact after_of (specOkR_is H2.out A n cap _ HM.out (rowAfter HR.out _))) | (go_at_call 111; with_reducible exact after_same (l1InR_is H3.out _)) | (go_at_call 101; exact after_of (specSumOfB_is H4.out L m mc _ _ hm (pairsAfter HP.out _))))) | quiet_step ((first | (go_at_call 111; with_reducible exact after_same (l1InR_is H1.out _)) | (go_at_call 63; exact after_of (specOkR_is H2.out A n cap _ HM.out (rowAfter HR.out _))) | (go_at_call 111; with_reducible exact after_same (l1InR_is H3.out _)) | (go_at_call 101; exact after_of (specSumOfB_is H4.out L m mc _ _ hm (pairsAfter HP.out _))))))
  refine wpQuiet_nil ?_
  intro pw
  clear f0 f1 f2 f3 f4 f5 f6 f7 f8 e0 e1 e2 e3 e4 H1 H2 H3 H4
  have D := D.later pw.bel D.lt
  have G := G.later pw.bel G.lt
  have E := bel_trans E pw.bel
  have R0 := rowAfter HR.out pw
  have P0 := pairsAfter HP.out pw
  generalize pw.x = w1 at D G E R0 P0 ⊢
  have HR := Lib.hid R0
  have HP := Lib.hid P0
  clear R0 P0
  obtain ⟨d0, d1, d2, d3, d4, d5, d6, d7, d8⟩ := D.nine
  obtain ⟨g0, g1, g2, g3, g4⟩ := G.five
  by_cases h1 : r2 = 1
  · subst h1
    rcases ho : opnB s l c sh zs (r4, r5, r6, r7) with _ | _
    · have HV : Hid (b = false) := Lib.hid (by rw [← HK.out]; unfold kndB; simp [ho])
      have HO := Lib.hid ho
      clear ho
      go_wp2_with fail
      refine (l7OpenB_is HO.out A n cap w1 HM.out HR.out).mono ?_
      rintro e w2 ⟨rfl, hb⟩
      have E2 := bel_trans E hb
      go_wp2
      go_ret
      exact ⟨by rw [HV.out]; rfl, E2⟩
    · have HO := Lib.hid ho
      have HV : Hid (b = decide (ps = [])) := Lib.hid (by rw [← HK.out]; unfold kndB; simp [ho])
      clear ho
      go_wp2_with fail
      refine (l7OpenB_is HO.out A n cap w1 HM.out HR.out).mono ?_
      rintro e w2 ⟨rfl, hb⟩
      have E2 := bel_trans E hb
      have d7 := (D.later hb D.lt).cell 7
      rcases Nat.eq_zero_or_pos m with hz | hz
      · have HQ : Hid (b = true) := Lib.hid (by
          have : ps = [] := List.eq_nil_of_length_eq_zero (HL.out.trans hz)
          rw [HV.out]; simp [this])
        subst hz
        go_wp2
        go_ret
        exact ⟨by rw [HQ.out]; rfl, E2⟩
      · have HQ : Hid (b = false) := Lib.hid (by
          have : ps ≠ [] := fun e => by have := HL.out; rw [e] at this; simp at this; omega
          rw [HV.out]; simp [this])
        have hm0 : ((m : Int) == 0) = false := by simp; omega
        go_wp2
        go_ret
        exact ⟨by rw [HQ.out]; rfl, E2⟩
  by_cases h2 : r2 = 2
  · subst h2
    by_cases h4 : r4 = 0
    · subst h4
      rcases zero_cases r5 r6 with ⟨rfl, rfl⟩ | ⟨hcase, hnz⟩
      · have HV : Hid (b = false) := Lib.hid (by rw [← HK.out]; unfold kndB; simp)
        go_wp2_with fail
        refine (l4Zero_yes w1).mono ?_
        rintro e w2 ⟨rfl, hb⟩
        have E2 := bel_trans E hb
        go_wp2
        go_ret
        exact ⟨by rw [HV.out]; rfl, E2⟩
      · have HF : Hid (lefB s l c sh zs r3 r5 r6 r7 ps = b) := Lib.hid (by rw [← HK.out]; unfold kndB; simp [hnz])
        have HC := Lib.hid hcase
        clear hnz hcase
        go_wp2_with fail
        refine (l4Zero_no r5 r6 HC.out w1).mono ?_
        rintro e w2 ⟨rfl, hb⟩
        have E2 := bel_trans E hb
        have D2 := D.later hb D.lt
        have G2 := G.later hb G.lt
        have HR2 := Lib.hid ((HR.out.below hb (Nat.le_refl _)).more hb.size)
        have HP2 := Lib.hid (HP.out.later hb)
        clear d0 d1 d2 d3 d4 d5 d6 d7 d8 g0 g1 g2 g3 g4 hb D G E HR HP
        obtain ⟨d0, d1, d2, d3, d4, d5, d6, d7, d8⟩ := D2.nine
        obtain ⟨g0, g1, g2, g3, g4⟩ := G2.five
        go_wp2_with fail
        refine (l7ProvenB_is HF.out A n cap L m mc w2 HM.out HR2.out hm HP2.out).mono ?_
        rintro e w3 ⟨rfl, hb⟩
        have E3 := bel_trans E2 hb
        go_wp2
        go_ret
        exact ⟨rfl, E3⟩
    · have HV : Hid (b = false) := Lib.hid (by rw [← HK.out]; unfold kndB; simp [h4])
      have h4' : (r4 == 0) = false := by simpa using h4
      go_wp2
      go_ret
      exact ⟨by rw [HV.out]; rfl, E⟩
  · have HV : Hid (b = false) := Lib.hid (by rw [← HK.out]; unfold kndB; simp [h1, h2])
    have h1' : (r2 == 1) = false := by simpa using h1
    have h2' : (r2 == 2) = false := by simpa using h2
    go_wp2
    go_ret
    exact ⟨by rw [HV.out]; rfl, E⟩

end Go.Proofs.YtmooajppfjglaaaGreat

/- RecOk as a law meets it: over copies of a group and a record as data; conditions: the sizes. -/
namespace Go.Proofs.YtmooajppfjglaaaGreat
open Go Go.RowKit

/-- What RecOk answers. -/
def rokD (g : GrpD) (d : RecD) : Bool := rokB g.s g.l g.c g.sh g.zs d.r1 d.r2 d.r3 d.r4 d.r5 d.r6 d.r7 d.ps d.r8
end Go.Proofs.YtmooajppfjglaaaGreat

/- What is replayed, as data: one record laid on its shelf, all of them, one after the other; how long it can get; no conditions. -/
namespace Go.Proofs.YtmooajppfjglaaaGreat
open Go Go.RowKit

def zeroR : RegD := ⟨0, 0, 0, [], []⟩
/-- A shelf with a record done to it. -/
def ontoD (g : GrpD) (d : RecD) (r : RegD) : RegD :=
  if d.r2 = 1 then ⟨r.t, r.q, r.v, r.ps, withO r.os (d.r4, d.r5, d.r6, d.r7)⟩
  else
    let o := outW g.s g.l g.c g.sh g.zs d.r3 r.t r.q r.v r.ps r.os d.r5 d.r6 d.r7 d.ps
    ⟨o.t, o.q, o.v, o.cs, o.os⟩
/-- Is it right where it stands? -/
def isAt (g : GrpD) (ds : List RecD) (i : Nat) : Bool :=
  match ds[i]? with
  | some d => decide (d.r1 = (i : Int) + 1) && rokD g d
  | none => false
def regOf (rs : List RegD) (i : Nat) : RegD := rs.getD i zeroR
def stepR (g : GrpD) (rs : List RegD) (d : RecD) : List RegD := rs.set d.r3.toNat (ontoD g d (regOf rs d.r3.toNat))
def shelves (g : GrpD) (ds : List RecD) : List RegD := ds.foldl (stepR g) (List.replicate g.sh.toNat zeroR)
def okG (g : GrpD) : Bool := okB g.s g.l g.c g.sh g.zs
def allAt (g : GrpD) (ds : List RecD) : Bool := (List.range ds.length).all (isAt g ds)
/-- What Replayed answers. -/
def replD (g : GrpD) (ds : List RecD) : List RegD × Bool := if okG g && allAt g ds then (shelves g ds, true) else ([], false)

theorem shelves_snoc (g : GrpD) (ds : List RecD) {k : Nat} (h : k < ds.length) : shelves g (ds.take (k + 1)) = stepR g (shelves g (ds.take k)) ds[k] := by
  unfold shelves
  rw [List.take_succ_eq_append_getElem h, List.foldl_append, List.foldl_cons, List.foldl_nil]
theorem stepR_len (g : GrpD) (rs : List RegD) (d : RecD) : (stepR g rs d).length = rs.length := by simp [stepR]
theorem shelves_len (g : GrpD) (ds : List RecD) : (shelves g ds).length = g.sh.toNat := by
  have key : ∀ (ds : List RecD) (rs : List RegD), (ds.foldl (stepR g) rs).length = rs.length := by
    intro ds
    induction ds with
    | nil => intro rs; rfl
    | cons d ds ih => intro rs; rw [List.foldl_cons, ih, stepR_len]
  unfold shelves
  rw [key, List.length_replicate]
theorem isAt_lt {g : GrpD} {ds : List RecD} {i : Nat} (h : i < ds.length) : isAt g ds i = (decide ((ds[i]).r1 = (i : Int) + 1) && rokD g ds[i]) := by
  unfold isAt
  rw [List.getElem?_eq_getElem h]
theorem allAt_false {g : GrpD} {ds : List RecD} {i : Nat} (h : i < ds.length) (hf : isAt g ds i = false) : allAt g ds = false := by
  unfold allAt
  rw [List.all_eq_false]
  exact ⟨i, List.mem_range.2 h, by simp [hf]⟩
theorem allAt_true {g : GrpD} {ds : List RecD} (h : ∀ i, i < ds.length → isAt g ds i = true) : allAt g ds = true := by
  unfold allAt
  rw [List.all_eq_true]
  exact fun i hi => h i (List.mem_range.1 hi)
/-- A right record is for a shelf of the group, which is right. -/
theorem rok_shelf {g : GrpD} {d : RecD} (h : rokD g d = true) : 0 ≤ d.r3 ∧ d.r3 ≤ g.sh - 1 ∧ okG g = true ∧ kndB g.s g.l g.c g.sh g.zs d.r2 d.r3 d.r4 d.r5 d.r6 d.r7 d.ps = true := by
  unfold rokD rokB shfB at h
  simp only [Bool.and_eq_true] at h
  obtain ⟨⟨⟨_, h1, h2⟩, h3⟩, _⟩ := h
  have := inB_true.1 h2
  exact ⟨this.1, this.2, h1, h3⟩
/-- How long a list of records is, with all that it holds. -/
def totC (ds : List RecD) : Nat := (ds.map fun d => 1 + d.ps.length).sum
theorem totC_snoc (ds : List RecD) {k : Nat} (h : k < ds.length) : totC (ds.take (k + 1)) = totC (ds.take k) + (1 + (ds[k]).ps.length) := by
  unfold totC
  rw [List.take_succ_eq_append_getElem h, List.map_append, List.sum_append]
  simp
theorem totC_take (ds : List RecD) (k : Nat) : totC (ds.take k) ≤ totC ds := by
  have h : totC (ds.take k) + totC (ds.drop k) = totC ds := by
    unfold totC
    rw [← List.sum_append, ← List.map_append, List.take_append_drop]
  omega
theorem totC_mem (ds : List RecD) {k : Nat} (h : k < ds.length) : 1 + (ds[k]).ps.length ≤ totC ds := by
  have h1 := totC_snoc ds h
  have h2 := totC_take ds (k + 1)
  omega
theorem onto_len (g : GrpD) (d : RecD) (r : RegD) {N : Nat} (h : r.ps.length + r.os.length ≤ N) : (ontoD g d r).ps.length + (ontoD g d r).os.length ≤ N + (1 + d.ps.length) := by
  unfold ontoD
  split
  · have := withO_len r.os (d.r4, d.r5, d.r6, d.r7)
    show r.ps.length + (withO r.os (d.r4, d.r5, d.r6, d.r7)).length ≤ _
    omega
  · have := outW_len (s := g.s) (l := g.l) (c := g.c) (sh := g.sh) (zs := g.zs) (x := d.r3) (rt := r.t) (rq := r.q) (rv := r.v) (ps := r.ps) (os := r.os) (ct := d.r5) (cq := d.r6) (v := d.r7) (cs := d.ps) rfl
    simp only
    omega
/-- No shelf is longer than what was done to them all. -/
theorem shelves_sz (g : GrpD) (ds : List RecD) : ∀ k, k ≤ ds.length → ∀ i, (regOf (shelves g (ds.take k)) i).ps.length + (regOf (shelves g (ds.take k)) i).os.length ≤ totC (ds.take k) := by
  intro k
  induction k with
  | zero =>
    intro _ i
    have h : regOf (shelves g (ds.take 0)) i = zeroR := by
      unfold regOf shelves
      simp only [List.take_zero, List.foldl_nil, List.getD_eq_getElem?_getD, List.getElem?_replicate]
      split <;> rfl
    rw [h]
    exact Nat.zero_le _
  | succ k ih =>
    intro hk i
    rw [shelves_snoc g ds (by omega), totC_snoc ds (by omega)]
    unfold stepR
    by_cases hi : (ds[k]).r3.toNat = i
    · subst hi
      by_cases hl : (ds[k]).r3.toNat < (shelves g (ds.take k)).length
      · have h : regOf ((shelves g (ds.take k)).set (ds[k]).r3.toNat (ontoD g ds[k] (regOf (shelves g (ds.take k)) (ds[k]).r3.toNat))) (ds[k]).r3.toNat = ontoD g ds[k] (regOf (shelves g (ds.take k)) (ds[k]).r3.toNat) := by
          simp [regOf, hl]
        rw [h]
        exact onto_len g _ _ (ih (by omega) _)
      · rw [List.set_eq_of_length_le (by omega)]
        have := ih (by omega) (ds[k]).r3.toNat
        omega
    · have h : regOf ((shelves g (ds.take k)).set (ds[k]).r3.toNat (ontoD g ds[k] (regOf (shelves g (ds.take k)) (ds[k]).r3.toNat))) i = regOf (shelves g (ds.take k)) i := by
        simp [regOf, hi]
      rw [h]
      have := ih (by omega) i
      omega

end Go.Proofs.YtmooajppfjglaaaGreat

/- The laws' helpers over lists of records: the size, held against what is left; conditions: the sizes. -/
namespace Go.Proofs.YtmooajppfjglaaaGreat
open Go Go.RowKit

theorem totC_rest (ds : List RecD) (k : Nat) : totC (ds.take k) + (ds.length - k) ≤ totC ds := by
  have h : totC (ds.take k) + totC (ds.drop k) = totC ds := by
    unfold totC
    rw [← List.sum_append, ← List.map_append, List.take_append_drop]
  have key : ∀ l : List RecD, l.length ≤ totC l := by
    intro l
    unfold totC
    induction l with
    | nil => exact Nat.zero_le _
    | cons d l ih => simp only [List.map_cons, List.sum_cons, List.length_cons]; omega
  have h2 := key (ds.drop k)
  rw [List.length_drop] at h2
  omega
theorem totC_zero (ds : List RecD) : totC (ds.take 0) = 0 := by simp [totC]
theorem RecsF.atC {ds : List RecD} {w : World} {F : Nat → Prop} {b o n : Nat} (h : RecsF ds w F (some ⟨b, o, none⟩) n) {k : Nat} (hk : k < ds.length) (hn : 0 < n) : ∃ L m mc, RecAt w b (o + k * 9) ds[k] (.slice L m mc) ∧ AtC ds[k] w F (.agg #[.int .i64 (ds[k]).r1, .int .i64 (ds[k]).r2, .int .i64 (ds[k]).r3, .int .i64 (ds[k]).r4, .int .i64 (ds[k]).r5, .int .i64 (ds[k]).r6, .int .i64 (ds[k]).r7, .slice L m mc, .int .i64 (ds[k]).r8]) := by
  obtain ⟨b', o', hA, -, -, hc⟩ := h.2 hn
  injection hA with hA
  injection hA with e1 e2
  subst e1 e2
  obtain ⟨L, m, mc, h1, h2, h3⟩ := hc k hk
  exact ⟨L, m, mc, h1, L, m, mc, rfl, h2, h3⟩

set_option maxRecDepth 100000 in
set_option maxHeartbeats 4000000 in
theorem sz_CS {ds : List RecD} {w : World} {F : Nat → Prop} {A : Option Addr} {n cap : Nat} {L : Int} (h : RecsF ds w F A n) (hm : n ≤ maxLen) (h0 : 0 ≤ L) (h1 : L ≤ 1048576) :
    Calls Tryz.prog 30 #[.slice A n cap, .int .i64 L] w fun e w' => Left L (totC ds) e ∧ Below w.heap.size w w' := by
  have HL := Lib.hid h.1
  have HH := Lib.hid h
  have HR := Lib.hid (totC_rest ds)
  have hw1 : IntKind.i64.wrap (L - (n : Int)) = L - (n : Int) := IntWalk.i64_in _ (by unfold maxLen at hm; omega)
  clear h
  go_enter Tryz.func30, Tryz.ntmps30
  by_cases hneg : L - (n : Int) < 0
  · go_wp2
    go_ret
    refine ⟨⟨-1, rfl, fun h => ?_, fun _ => by omega⟩, Below.refl _ _⟩
    have := HR.out 0
    have := HL.out
    omega
  · have hnn : n ≤ 1048576 := by omega
    go_wp2
    go_loopw [1, 5] (fun s i wr => ∃ k : Nat, k ≤ n ∧ i = .int .i64 k ∧ s = .int .i64 (L - n + k - totC (ds.take k)) ∧ totC (ds.take k) + n ≤ L + k ∧ Below w.heap.size w wr) (fun _ i _ => n - (intOf i).toNat)
    case atStart => exact ⟨0, Nat.zero_le _, rfl, by rw [totC_zero]; simp, by rw [totC_zero]; omega, Below.refl _ _⟩
    case round =>
      obtain ⟨k, hk, rfl, rfl, hs, hb⟩ := hrel
      by_cases hlt : k < n
      · have hkd : k < ds.length := by have := HL.out; omega
        have hD := HH.out.later hb
        obtain ⟨b, o, hA, -, hbl, -⟩ := hD.2 (by omega)
        subst hA
        obtain ⟨L', m, mc, hrec, hat⟩ := hD.atC hkd (by omega)
        have hsn := totC_snoc ds hkd
        have hrr := HR.out (k + 1)
        obtain ⟨d, hd⟩ : ∃ d : RecD, ds[k] = d := ⟨_, rfl⟩
        rw [hd] at hrec hat hsn
        have hll := HL.out
        obtain ⟨c0, c1, c2, c3, c4, c5, c6, c7, c8⟩ := hrec
        have hltI : (k : Int) < (n : Int) := by omega
        have hkw : IntKind.i64.wrap ((k : Int) + 1) = (k : Int) + 1 := IntWalk.i64_in _ (by omega)
        have hsz : d.sz = d.ps.length := rfl
        have HAT := Lib.hid hat
        have HSN := Lib.hid hsn
        have HRR := Lib.hid hrr
        have HLL := Lib.hid hll
        have HSZ := Lib.hid hsz
        clear hd hD hat hsn hrr hll hsz
        by_cases hover : L - n + k - totC (ds.take k) < d.sz
        · go_wp2_with (go_at_call 84; refine (sz_C HAT.out (by omega) (by omega)).mono ?_; rintro e w2 ⟨⟨v, rfl, -, hv⟩, hb2⟩; replace hv := hv (by omega))
          go_ret
          refine ⟨⟨-1, rfl, fun h => ?_, fun _ => by omega⟩, bel_trans hb hb2⟩
          have := HRR.out
          have := HSN.out
          have := HLL.out
          have := HSZ.out
          omega
        · go_wp2_with (go_at_call 84; refine (sz_C HAT.out (by omega) (by omega)).mono ?_; rintro e w2 ⟨⟨v, rfl, hv, -⟩, hb2⟩; replace hv := hv (by omega); have hv0 : ¬ v < 0 := by omega)
          go_roundw
          case rel => exact ⟨k + 1, by omega, by go_num, by rw [HSN.out, HSZ.out]; congr 1; omega, by rw [HSN.out]; have := HSZ.out; omega, bel_trans hb hb2⟩
          case measure => simp [intOf]; omega
      · have hkn : k = n := by omega
        subst hkn
        have hfull : ds.take k = ds := List.take_of_length_le (by have := HL.out; omega)
        rw [hfull] at hs ⊢
        go_wp2
        go_ret
        exact ⟨⟨_, rfl, fun _ => by omega, fun h => by omega⟩, hb⟩
theorem atAfter {d : RecD} {w : World} {F : Nat → Prop} {v : Value} (h : AtC d w F v) (pw : After w) : AtC d pw.x F v := (keepsC d).later h pw.bel
set_option maxRecDepth 100000 in
set_option maxHeartbeats 4000000 in
theorem eq_CS {ds : List RecD} {w : World} {F F' : Nat → Prop} {A A' : Option Addr} {n cap cap' : Nat} (h : RecsF ds w F A n) (h' : RecsF ds w F' A' n) (hz : totC ds ≤ 1048576) :
    Calls Tryz.prog 35 #[.slice A n cap, .slice A' n cap'] w fun e w' => e = .returned (.bool true) ∧ Below w.heap.size w w' := by
  have HL := Lib.hid h.1
  have HH := Lib.hid h
  have HH' := Lib.hid h'
  have hnn : n ≤ 1048576 := by have := totC_rest ds 0; rw [totC_zero] at this; have := h.1; omega
  have HZ := Lib.hid (fun k (hk : k < ds.length) => totC_mem ds hk)
  clear h h'
  go_enter Tryz.func35, Tryz.ntmps35
  go_wp2
  go_loopw [5] (fun i wr => ∃ k : Nat, k ≤ n ∧ i = .int .i64 k ∧ Below w.heap.size w wr) (fun i _ => n - (intOf i).toNat)
  case atStart => exact ⟨0, Nat.zero_le _, rfl, Below.refl _ _⟩
  case round =>
    obtain ⟨k, hk, rfl, hb⟩ := hrel
    by_cases hlt : k < n
    · have hkd : k < ds.length := by have := HL.out; omega
      have hD := HH.out.later hb
      have hD' := HH'.out.later hb
      obtain ⟨b, o, hA, -, hbl, -⟩ := hD.2 (by omega)
      obtain ⟨b', o', hA', -, hbl', -⟩ := hD'.2 (by omega)
      subst hA hA'
      obtain ⟨L, m, mc, hrec, hat⟩ := hD.atC hkd (by omega)
      obtain ⟨L', m', mc', hrec', hat'⟩ := hD'.atC hkd (by omega)
      have hzz := HZ.out k hkd
      obtain ⟨d, hd⟩ : ∃ d : RecD, ds[k] = d := ⟨_, rfl⟩
      rw [hd] at hrec hat hrec' hat' hzz
      have hsz : d.sz ≤ 1048576 := by unfold RecD.sz; omega
      obtain ⟨c0, c1, c2, c3, c4, c5, c6, c7, c8⟩ := hrec
      obtain ⟨k0, k1, k2, k3, k4, k5, k6, k7, k8⟩ := hrec'
      have f0 := After.cell hbl c0
      have f1 := After.cell hbl c1
      have f2 := After.cell hbl c2
      have f3 := After.cell hbl c3
      have f4 := After.cell hbl c4
      have f5 := After.cell hbl c5
      have f6 := After.cell hbl c6
      have f7 := After.cell hbl c7
      have f8 := After.cell hbl c8
      have e0 := After.cell hbl' k0
      have e1 := After.cell hbl' k1
      have e2 := After.cell hbl' k2
      have e3 := After.cell hbl' k3
      have e4 := After.cell hbl' k4
      have e5 := After.cell hbl' k5
      have e6 := After.cell hbl' k6
      have e7 := After.cell hbl' k7
      have e8 := After.cell hbl' k8
      have hltI : (k : Int) < (n : Int) := by omega
      have hkw : IntKind.i64.wrap ((k : Int) + 1) = (k : Int) + 1 := IntWalk.i64_in _ (by omega)
      have HAT := Lib.hid hat
      have HAT' := Lib.hid hat'
      clear hd hD hD' hat hat' hzz
      go_upto_region 6 with fail
      refine wp_region_after (by kernel_rfl) (by kernel_rfl) ?_
      repeat (first | go_big_quiet_step ((go_at_call 89; exact after_of (eq_C (atAfter HAT.out _) (atAfter HAT'.out _) hsz))) | quiet_step ((go_at_call 89; exact after_of (eq_C (atAfter HAT.out _) (atAfter HAT'.out _) hsz))))
      refine wpQuiet_nil ?_
      intro pw
      clear f0 f1 f2 f3 f4 f5 f6 f7 f8 e0 e1 e2 e3 e4 e5 e6 e7 e8
      go_wp2
      go_roundw
      case rel => exact ⟨k + 1, by omega, by go_num, bel_trans hb pw.bel⟩
      case measure => simp [intOf]; omega
    · have hkn : k = n := by omega
      subst hkn
      go_wp2
      go_ret
      exact ⟨rfl, hb⟩
end Go.Proofs.YtmooajppfjglaaaGreat

/- A block of records of one's own: each with its list in blocks of its own; made anew, written, read; no conditions. -/
namespace Go.Proofs.YtmooajppfjglaaaGreat
open Go Go.RowKit

theorem turns_setCells9 (g : Nat) : ∀ (vs : List Value) (o : Nat) (w : World), Turns (· = g) w (w.setCells g o vs)
  | [], _, w => Turns.of_below (Below.refl _ _)
  | v :: vs, o, w => (turns_cell9 w g o v).trans (turns_setCells9 g vs (o + 1) _)
where
  turns_cell9 (w : World) (g o : Nat) (u : Value) : Turns (· = g) w (w.setCell ⟨g, o, none⟩ u) :=
    ⟨rfl, rfl, rfl, by rw [size_set]; exact Nat.le_refl _, fun i _ hne => Below.heap_setCell w ⟨g, o, none⟩ u i hne⟩
def zeroC : RecD := ⟨0, 0, 0, 0, 0, 0, 0, [], 0⟩
/-- The block g holds n records, D of them; the list of the one at place i lies in blocks of Fs i, apart from all others'. -/
structure RecsAt (w : World) (g n : Nat) (D : Nat → RecD) (Fs : Nat → Nat → Prop) : Prop where
  lt : g < w.heap.size
  fr : ∀ o, w.frozen? ⟨g, o, none⟩ = false
  row : ∀ i, i < n → ∃ u, w.rangeAt g (i * 9) ((D i).cells u).toList ∧ LieC (D i) w (Fs i) (.agg ((D i).cells u))
  apart : ∀ i, i < n → ∀ b, Fs i b → b ≠ g
  two : ∀ i j, i < n → j < n → i ≠ j → ∀ b, Fs i b → ¬ Fs j b
theorem RecsAt.turn {w w' : World} {g n : Nat} {D : Nat → RecD} {Fs : Nat → Nat → Prop} {T : Nat → Prop} (h : RecsAt w g n D Fs) (ht : Turns T w w') (hg : ¬ T g) (hF : ∀ i, i < n → ∀ b, Fs i b → ¬ T b) : RecsAt w' g n D Fs :=
  ⟨Nat.lt_of_lt_of_le h.lt ht.size, fun o => (ht.frozen h.lt hg o).trans (h.fr o), fun i hi => by
    obtain ⟨u, h1, h2⟩ := h.row i hi
    exact ⟨u, fun j v hv => (ht.cell h.lt hg _).trans (h1 j v hv), (keepsLC _).turn h2 ht (hF i hi)⟩, h.apart, h.two⟩
theorem RecsAt.later {w w' : World} {g n : Nat} {D : Nat → RecD} {Fs : Nat → Nat → Prop} (h : RecsAt w g n D Fs) (hb : Below w.heap.size w w') : RecsAt w' g n D Fs :=
  h.turn (T := fun _ => False) (Turns.of_below hb) (fun h => h) (fun _ _ _ _ h => h)
theorem cells_len (d : RecD) (u : Value) : (d.cells u).toList.length = 9 := rfl
theorem RecsAt.there {w : World} {g n : Nat} {D : Nat → RecD} {Fs : Nat → Nat → Prop} (h : RecsAt w g n D Fs) {i : Nat} (hi : i < n) : w.there g (i * 9) 9 := fun j hj => by
  obtain ⟨u, h1, -⟩ := h.row i hi
  exact ⟨h1.isSome j (by rw [cells_len]; exact hj), h.fr _⟩
def upD (D : Nat → RecD) (i : Nat) (d : RecD) : Nat → RecD := fun j => if j = i then d else D j
def upFs (Fs : Nat → Nat → Prop) (i : Nat) (F : Nat → Prop) : Nat → Nat → Prop := fun j => if j = i then F else Fs j
/-- One of them is written anew. -/
theorem RecsAt.put {w : World} {g n : Nat} {D : Nat → RecD} {Fs : Nat → Nat → Prop} (h : RecsAt w g n D Fs) {i : Nat} (hi : i < n) {d : RecD} {F : Nat → Prop} {u : Value} (hL : LieC d w F (.agg (d.cells u))) (hg : ∀ b, F b → b ≠ g) (ho : ∀ j, j < n → j ≠ i → ∀ b, F b → ¬ Fs j b) :
    RecsAt (w.setCells g (i * 9) (d.cells u).toList) g n (upD D i d) (upFs Fs i F) := by
  have ht := turns_setCells9 g (d.cells u).toList (i * 9) w
  refine ⟨Nat.lt_of_lt_of_le h.lt ht.size, fun o => (World.frozen?_setCells g _ _ _ _).trans (h.fr o), fun j hj => ?_, fun j hj b hb => ?_, fun j k hj hk hjk b hb hb2 => ?_⟩
  · by_cases e : j = i
    · subst e
      refine ⟨u, ?_, ?_⟩
      · simp only [upD, if_true]
        exact World.rangeAt_setCells_same w g _ _ (h.there hi)
      · simp only [upD, upFs, if_true]
        exact (keepsLC _).turn hL ht hg
    · obtain ⟨u', h1, h2⟩ := h.row j hj
      refine ⟨u', ?_, ?_⟩
      · simp only [upD, if_neg e]
        exact World.rangeAt_setCells_apart h1 g _ _ (.inr (by simp only [cells_len]; omega))
      · simp only [upD, upFs, if_neg e]
        exact (keepsLC _).turn h2 ht (h.apart j hj)
  · unfold upFs at hb
    split at hb
    · exact hg b hb
    · exact h.apart j hj b hb
  · unfold upFs at hb hb2
    split at hb <;> split at hb2
    · omega
    · exact ho k hk (by assumption) b hb hb2
    · exact ho j hj (by assumption) b hb2 hb
    · exact h.two j k hj hk hjk b hb hb2
/-- Records of one's own behind lo: no list lies below it. -/
def RecsOwn (w : World) (g lo n : Nat) (D : Nat → RecD) : Prop :=
  lo ≤ g ∧ ∃ Fs, RecsAt w g n D Fs ∧ ∀ i, i < n → ∀ b, Fs i b → lo ≤ b ∧ b < w.heap.size
theorem RecsOwn.turn {w w' : World} {g lo n : Nat} {D : Nat → RecD} {T : Nat → Prop} (h : RecsOwn w g lo n D) (ht : Turns T w w') (hT : ∀ b, T b → b < lo) : RecsOwn w' g lo n D := by
  obtain ⟨hg, Fs, hR, hF⟩ := h
  exact ⟨hg, Fs, hR.turn ht (fun h => by have := hT _ h; omega) (fun i hi b hb hb2 => by have := hT b hb2; have := (hF i hi b hb).1; omega), fun i hi b hb => ⟨(hF i hi b hb).1, Nat.lt_of_lt_of_le (hF i hi b hb).2 ht.size⟩⟩
theorem RecsOwn.later {w w' : World} {g lo n : Nat} {D : Nat → RecD} (h : RecsOwn w g lo n D) (hb : Below w.heap.size w w') : RecsOwn w' g lo n D := h.turn (T := fun _ => False) (Turns.of_below hb) (fun _ h => h.elim)
/-- One of them is written anew, with a new list. -/
theorem RecsOwn.put {w w1 : World} {g lo n : Nat} {D : Nat → RecD} (h : RecsOwn w g lo n D) (hb : Below w.heap.size w w1) {i : Nat} (hi : i < n) {d : RecD} {u : Value} (hL : LieC d w1 (Iv w.heap.size w1.heap.size) (.agg (d.cells u))) :
    RecsOwn (w1.setCells g (i * 9) (d.cells u).toList) g lo n (upD D i d) := by
  obtain ⟨hg, Fs, hR, hF⟩ := h
  have hlt := hR.lt
  have hs := (turns_setCells9 g (d.cells u).toList (i * 9) w1).size
  refine ⟨hg, _, (hR.later hb).put hi hL (fun b hb1 => by have := hb1.1; omega) (fun j hj _ b hb1 hb2 => by have := hb1.1; have := (hF j hj b hb2).2; omega), fun j hj b hb1 => ?_⟩
  unfold upFs at hb1
  split at hb1
  · exact ⟨by have := hb1.1; omega, Nat.lt_of_lt_of_le hb1.2 hs⟩
  · have := hF j hj b hb1
    have := hb.size
    omega
theorem RecsOwn.low {w : World} {g lo lo' n : Nat} {D : Nat → RecD} (h : RecsOwn w g lo n D) (hl : lo' ≤ lo) : RecsOwn w g lo' n D := by
  obtain ⟨hg, Fs, hR, hF⟩ := h
  exact ⟨by omega, Fs, hR, fun i hi b hb => ⟨by have := (hF i hi b hb).1; omega, (hF i hi b hb).2⟩⟩
/-- Records that nothing was written to yet. -/
theorem recs_new (w : World) (t : TypeId) (n : Nat) : RecsOwn (w.alloc (.cells (madeCells (zeroC.cells (.slice none 0 0)) (n * 9)) t)) w.heap.size w.heap.size n (fun _ => zeroC) := by
  have hb := Box.new w t (madeCells (zeroC.cells (.slice none 0 0)) (n * 9))
  refine ⟨Nat.le_refl _, fun _ _ => False, ⟨hb.lt, hb.frozen, fun i hi => ⟨.slice none 0 0, fun j v hv => ?_, ⟨_, rfl, .inl ⟨rfl, rfl⟩⟩⟩, fun _ _ _ h => h.elim, fun _ _ _ _ _ _ h => h.elim⟩, fun _ _ _ h => h.elim⟩
  have hj : j < 9 := by
    have := (List.getElem?_eq_some_iff.1 hv).1
    rwa [cells_len] at this
  refine (hb.cell _).trans ?_
  rw [← hv]
  have e : (i * 9 + j) % 9 = j := by omega
  have hl : i * 9 + j < n * 9 := by omega
  have h9 : (zeroC.cells (.slice none 0 0)).size = 9 := rfl
  simp [madeCells, hl, h9, e, hj]
end Go.Proofs.YtmooajppfjglaaaGreat

/- The laws' copy of a list of records; conditions: the sizes. -/
namespace Go.Proofs.YtmooajppfjglaaaGreat
open Go Go.RowKit

theorem Tryz.infoRec9 : (Tryz.prog.info? 42).map (fun i => (i.zero, i.size, i.bytes)) = some (some (.agg (zeroC.cells (.slice none 0 0))), 9, 88) := by kernel_rfl
theorem run_make_recs {P : Program} (t e : TypeId) (ht : P.underlying t = some (.slice e)) (hinfo : (P.info? e).map (fun i => (i.zero, i.size, i.bytes)) = some (some (.agg (zeroC.cells (.slice none 0 0))), 9, 88))
    (n : Nat) (hn : n ≤ 1048576) (w : World) :
    (Instr.makeSlice t (.int .i64 (n : Int)) (.int .i64 (n : Int))).run P w = .ok (.slice (some ⟨w.heap.size, 0, none⟩) n n) (w.alloc (.cells (madeCells (zeroC.cells (.slice none 0 0)) (n * 9)) e)) := by
  obtain ⟨i, hi, hzz⟩ := Option.map_eq_some_iff.1 hinfo
  simp only [Prod.mk.injEq] at hzz
  obtain ⟨hz, hs, hb⟩ := hzz
  have hr := run_make (P := P) w t e i _ ht hi hz .i64 .i64 n n (by omega) (Int.le_refl _) (by rw [hb]; omega) (by omega)
  simp only [Int.toNat_natCast, hs] at hr
  exact hr
/-- The first k of them, and nothing behind. -/
def recsK (ds : List RecD) (k : Nat) : Nat → RecD := fun j => if j < k then ds.getD j zeroC else zeroC
theorem recsK_zero (ds : List RecD) : recsK ds 0 = fun _ => zeroC := by
  funext j
  simp [recsK]
theorem recsK_step (ds : List RecD) {k : Nat} (h : k < ds.length) : upD (recsK ds k) k ds[k] = recsK ds (k + 1) := by
  funext j
  unfold upD recsK
  by_cases e : j = k
  · subst e
    rw [if_pos rfl, if_pos (by omega), List.getD_eq_getElem?_getD, List.getElem?_eq_getElem h]
    rfl
  · rw [if_neg e]
    by_cases e2 : j < k
    · rw [if_pos e2, if_pos (by omega)]
    · rw [if_neg e2, if_neg (by omega)]
theorem RecsOwn.there {w : World} {g lo n : Nat} {D : Nat → RecD} (h : RecsOwn w g lo n D) {i : Nat} (hi : i < n) : w.there g (i * 9) 9 := by
  obtain ⟨_, Fs, hR, _⟩ := h
  exact hR.there hi
theorem one_cells {d : RecD} {w : World} {F : Nat → Prop} {u : Value} (h : OwnP w F u d.ps) : (d.cells u).all (·.oneCell') = true := by
  rcases h with ⟨rfl, -⟩ | ⟨g, cap, -, rfl, -⟩ <;> simp [RecD.cells, Value.oneCell']
theorem grown_setCells9 {w w1 : World} (h : Below w.heap.size w w1) (g o : Nat) (vs : List Value) : w.grownBy (w1.setCells g o vs) (some g) := by
  have t := turns_setCells9 g vs o w1
  exact ⟨t.os.trans h.os, t.tape.trans h.tape, t.output.trans h.output, Nat.le_trans h.size t.size, fun i hi hne => (t.block i (Nat.lt_of_lt_of_le hi h.size) (fun e => hne (by rw [e]))).trans (h.block i hi)⟩

set_option maxRecDepth 100000 in
set_option maxHeartbeats 4000000 in
theorem to_CS {ds : List RecD} {w : World} {F : Nat → Prop} {A : Option Addr} {n cap : Nat} (h : RecsF ds w F A n) (hF : ∀ b, F b → b < w.heap.size) (hz : totC ds ≤ 1048576) :
    Calls Tryz.prog 32 #[.slice A n cap] w fun e w' => ∃ G, e = .returned (.slice (some ⟨G, 0, none⟩) n n) ∧ RecsOwn w' G w.heap.size n (recsK ds n) ∧ Below w.heap.size w w' := by
  have HL := Lib.hid h.1
  have hnn : n ≤ 1048576 := by have := totC_rest ds 0; rw [totC_zero] at this; have := h.1; omega
  have HZ := Lib.hid (fun k (hk : k < ds.length) => totC_mem ds hk)
  have HBW := Lib.hid hF
  have hmk := fun W => run_make_recs (P := Tryz.prog) 27 42 Tryz.underlying27 Tryz.infoRec9 n hnn W
  have K0 := recs_new w 42 n
  have hb1 := bel_alloc w (.cells (madeCells (zeroC.cells (.slice none 0 0)) (n * 9)) 42)
  have HH := Lib.hid (h.later hb1)
  clear h
  go_enter Tryz.func32, Tryz.ntmps32
  go_upto_region 2 with fail
  clear hmk
  generalize (w.alloc (.cells (madeCells (zeroC.cells (.slice none 0 0)) (n * 9)) 42)) = w2 at K0 hb1 HH ⊢
  have hGl : w.heap.size < w2.heap.size := by
    obtain ⟨_, Fs, hR, _⟩ := K0
    exact hR.lt
  go_wp2
  go_loopw [4] (fun i wr => ∃ k : Nat, k ≤ n ∧ i = .int .i64 k ∧ RecsOwn wr w.heap.size w.heap.size n (recsK ds k) ∧ w2.grownBy wr (some w.heap.size)) (fun i _ => n - (intOf i).toNat)
  case atStart => exact ⟨0, Nat.zero_le _, rfl, by rw [recsK_zero]; exact K0, grown_refl _ _⟩
  case round =>
    clear K0
    obtain ⟨k, hk, rfl, K, hgw⟩ := hrel
    by_cases hlt : k < n
    · have hkd : k < ds.length := by have := HL.out; omega
      have hD := HH.out
      obtain ⟨b, o, hA, hbF, hbl, -⟩ := hD.2 (by omega)
      subst hA
      have hbw : b < w.heap.size := HBW.out b hbF
      obtain ⟨L, m, mc, hrec, hat⟩ := hD.atC hkd (by omega)
      have hzz := HZ.out k hkd
      have hst := recsK_step ds hkd
      obtain ⟨d, hd⟩ : ∃ d : RecD, ds[k] = d := ⟨_, rfl⟩
      rw [hd] at hrec hat hzz hst
      have hsz : d.sz ≤ 1048576 := by unfold RecD.sz; omega
      have hT : ∀ j x, w2.cell? ⟨b, j, none⟩ = some x → wr.cell? ⟨b, j, none⟩ = some x := fun j x h => (hgw.cell_far ⟨b, j, none⟩ hbl (fun e => by injection e with e; have e2 : b = w.heap.size := e; omega)).trans h
      obtain ⟨c0, c1, c2, c3, c4, c5, c6, c7, c8⟩ := hrec
      replace c0 := hT _ _ c0
      replace c1 := hT _ _ c1
      replace c2 := hT _ _ c2
      replace c3 := hT _ _ c3
      replace c4 := hT _ _ c4
      replace c5 := hT _ _ c5
      replace c6 := hT _ _ c6
      replace c7 := hT _ _ c7
      replace c8 := hT _ _ c8
      have HAT := Lib.hid ((keepsC d).turn hat (Turns.of_grown hgw) (fun b hb e => by have := HBW.out b hb; have e2 : b = w.heap.size := e; omega))
      have HST := Lib.hid hst
      have hltI : (k : Int) < (n : Int) := by omega
      have hkw : IntKind.i64.wrap ((k : Int) + 1) = (k : Int) + 1 := IntWalk.i64_in _ (by omega)
      clear hd hD hat hzz hst hT
      go_wp2_with (first | (go_at_call 86; refine (to_C HAT.out hsz).mono ?_; rintro e w3 ⟨C, rfl, hL, hb3⟩; obtain ⟨u, hC, hO⟩ := hL; injection hC with hC; subst hC; have HTH := Lib.hid ((K.later hb3).there hlt); have HO := Lib.hid hO; clear hO) | (refine wpList_store_mid rfl 42 _ _ rfl w.heap.size (k * 9) (d.cells u) rfl rfl HTH.out (by kernel_rfl) (one_cells HO.out) ?_; have KN := Lib.hid (RecsOwn.put K hb3 hlt (d := d) (u := u) ⟨u, rfl, HO.out⟩); have GN := Lib.hid (grown_trans hgw (grown_setCells9 hb3 w.heap.size (k * 9) (d.cells u).toList)); rw [HST.out] at KN; generalize (World.setCells w3 _ _ _) = w4 at KN GN ⊢; try simp only [Act.put]))
      go_roundw
      case rel => exact ⟨k + 1, by omega, by go_num, KN.out, GN.out⟩
      case measure => simp [intOf]; omega
    · have hkn : k = n := by omega
      subst hkn
      go_wp2
      go_ret
      exact ⟨w.heap.size, rfl, K, bel_grown hb1 hgw (by omega)⟩
end Go.Proofs.YtmooajppfjglaaaGreat

/- Records of one's own, read as a list; conditions: none. -/
namespace Go.Proofs.YtmooajppfjglaaaGreat
open Go Go.RowKit

theorem RecsOwn.reads {w : World} {G lo n : Nat} {ds : List RecD} (h : RecsOwn w G lo n (recsK ds n)) (hn : ds.length = n) : RecsF ds w (fun b => b < w.heap.size) (some ⟨G, 0, none⟩) n := by
  obtain ⟨_, Fs, hR, hF⟩ := h
  refine ⟨hn, fun _ => ⟨G, 0, rfl, hR.lt, hR.lt, fun i hi => ?_⟩⟩
  have hi' : i < n := by omega
  obtain ⟨u, h1, h2⟩ := hR.row i hi'
  have hd : recsK ds n i = ds[i] := by
    unfold recsK
    rw [if_pos hi', List.getD_eq_getElem?_getD, List.getElem?_eq_getElem hi]
    rfl
  rw [hd] at h1 h2
  obtain ⟨L, m, mc, e, hm, hp⟩ := ((keepsC _).sub h2.at (fun b hb => (hF i hi' b hb).2) : AtC ds[i] w (fun b => b < w.heap.size) _)
  injection e with e
  have hu : u = .slice L m mc := by simpa [RecD.cells] using e
  subst hu
  refine ⟨L, m, mc, ?_, hm, hp⟩
  rw [Nat.zero_add]
  exact ⟨h1 0 _ rfl, h1 1 _ rfl, h1 2 _ rfl, h1 3 _ rfl, h1 4 _ rfl, h1 5 _ rfl, h1 6 _ rfl, h1 7 _ rfl, h1 8 _ rfl⟩
end Go.Proofs.YtmooajppfjglaaaGreat

/- A journal as data: two lists of records; read, and of one's own; no conditions. -/
namespace Go.Proofs.YtmooajppfjglaaaGreat
open Go Go.RowKit

structure JourD where
  ks : List RecD
  ls : List RecD
def JourD.sz (d : JourD) : Nat := totC d.ks + totC d.ls
/-- A value reads as a journal, through blocks of F alone. -/
def AtJ (d : JourD) (w : World) (F : Nat → Prop) (v : Value) : Prop :=
  ∃ (A : Option Addr) (n c : Nat) (A' : Option Addr) (n' c' : Nat), v = .agg #[.slice A n c, .slice A' n' c'] ∧ n ≤ maxLen ∧ n' ≤ maxLen ∧ RecsF d.ks w F A n ∧ RecsF d.ls w F A' n'
theorem keepsJ (d : JourD) : Keeps (AtJ d) :=
  ⟨fun ⟨A, n, c, A', n', c', e, h1, h2, h3, h4⟩ ht hd => ⟨A, n, c, A', n', c', e, h1, h2, h3.turn ht hd, h4.turn ht hd⟩, fun ⟨A, n, c, A', n', c', e, h1, h2, h3, h4⟩ hs => ⟨A, n, c, A', n', c', e, h1, h2, h3.sub hs, h4.sub hs⟩⟩
theorem sizeJ {d : JourD} {w : World} {F : Nat → Prop} {C : Array Value} (h : AtJ d w F (.agg C)) : (Tryz.prog.info? 70).map (·.size) = some C.size ∧ (Tryz.prog.info? 45).map (·.size) = some C.size := by
  obtain ⟨A, n, c, A', n', c', e, _⟩ := h
  injection e with e
  subst e
  exact ⟨by kernel_rfl, by kernel_rfl⟩
theorem oneJ {d : JourD} {w : World} {F : Nat → Prop} {C : Array Value} (h : AtJ d w F (.agg C)) : C.size = 2 ∧ C.all (·.oneCell') = true := by
  obtain ⟨A, n, c, A', n', c', e, _⟩ := h
  injection e with e
  subst e
  exact ⟨rfl, by simp [Value.oneCell']⟩
theorem RecsF.lt {ds : List RecD} {w : World} {F : Nat → Prop} {A : Option Addr} {n : Nat} (h : RecsF ds w F A n) : RecsF ds w (fun b => F b ∧ b < w.heap.size) A n := by
  refine ⟨h.1, fun hn => ?_⟩
  obtain ⟨b, o, hA, hF, hb, hc⟩ := h.2 hn
  refine ⟨b, o, hA, ⟨hF, hb⟩, hb, fun i hi => ?_⟩
  obtain ⟨L, m, mc, h1, h2, h3⟩ := hc i hi
  refine ⟨L, m, mc, h1, h2, h3.1, fun hm b' o' e => ⟨h3.2 hm b' o' e, ?_⟩⟩
  obtain ⟨b2, o2, e2, hb2, _⟩ := h3.1.2 hm
  rw [e] at e2
  injection e2 with e2
  injection e2 with e2
  subst e2
  exact hb2
/-- A list of records of one's own: nil, or a block, and the records' lists; all in blocks of F. -/
def OwnCS (ds : List RecD) (w : World) (F : Nat → Prop) (v : Value) : Prop :=
  (v = .slice none 0 0 ∧ ds = []) ∨ ∃ (G c : Nat) (Fs : Nat → Nat → Prop), F G ∧ v = .slice (some ⟨G, 0, none⟩) ds.length c ∧ ds.length ≤ c ∧ c ≤ maxLen ∧ RecsAt w G ds.length (recsK ds ds.length) Fs ∧ ∀ i, i < ds.length → ∀ b, Fs i b → F b ∧ b < w.heap.size
theorem OwnCS.turn {ds : List RecD} {w w' : World} {F T : Nat → Prop} {v : Value} (h : OwnCS ds w F v) (ht : Turns T w w') (hd : ∀ b, F b → ¬ T b) : OwnCS ds w' F v := by
  rcases h with h | ⟨G, c, Fs, hG, e, h1, h2, hR, hF⟩
  · exact .inl h
  · exact .inr ⟨G, c, Fs, hG, e, h1, h2, hR.turn ht (hd G hG) (fun i hi b hb => hd b (hF i hi b hb).1), fun i hi b hb => ⟨(hF i hi b hb).1, Nat.lt_of_lt_of_le (hF i hi b hb).2 ht.size⟩⟩
theorem OwnCS.later {ds : List RecD} {w w' : World} {F : Nat → Prop} {v : Value} (h : OwnCS ds w F v) (hb : Below w.heap.size w w') : OwnCS ds w' F v := h.turn (T := fun _ => False) (Turns.of_below hb) (fun _ _ h => h)
theorem OwnCS.sub {ds : List RecD} {w : World} {F F' : Nat → Prop} {v : Value} (h : OwnCS ds w F v) (hs : ∀ b, F b → F' b) : OwnCS ds w F' v := by
  rcases h with h | ⟨G, c, Fs, hG, e, h1, h2, hR, hF⟩
  · exact .inl h
  · exact .inr ⟨G, c, Fs, hs G hG, e, h1, h2, hR, fun i hi b hb => ⟨hs b (hF i hi b hb).1, (hF i hi b hb).2⟩⟩
theorem OwnCS.lt {ds : List RecD} {w : World} {F : Nat → Prop} {v : Value} (h : OwnCS ds w F v) : OwnCS ds w (fun b => F b ∧ b < w.heap.size) v := by
  rcases h with h | ⟨G, c, Fs, hG, e, h1, h2, hR, hF⟩
  · exact .inl h
  · exact .inr ⟨G, c, Fs, ⟨hG, hR.lt⟩, e, h1, h2, hR, fun i hi b hb => ⟨hF i hi b hb, (hF i hi b hb).2⟩⟩
theorem recsK_at {ds : List RecD} {n i : Nat} (hn : ds.length = n) (h : i < ds.length) : recsK ds n i = ds[i] := by
  unfold recsK
  rw [if_pos (by omega), List.getD_eq_getElem?_getD, List.getElem?_eq_getElem h]
  rfl
/-- One's own list, read. -/
theorem OwnCS.reads {ds : List RecD} {w : World} {F : Nat → Prop} {v : Value} (h : OwnCS ds w F v) : ∃ A c, v = .slice A ds.length c ∧ RecsF ds w F A ds.length := by
  rcases h with ⟨rfl, rfl⟩ | ⟨G, c, Fs, hG, e, h1, h2, hR, hF⟩
  · exact ⟨none, 0, rfl, rfl, fun hn => absurd hn (Nat.lt_irrefl _)⟩
  · refine ⟨_, c, e, rfl, fun _ => ⟨G, 0, rfl, hG, hR.lt, fun i hi => ?_⟩⟩
    obtain ⟨u, g1, g2⟩ := hR.row i hi
    rw [recsK_at rfl hi] at g1 g2
    obtain ⟨L, m, mc, e, hm, hp⟩ := ((keepsC _).sub g2.at (fun b hb => (hF i hi b hb).1) : AtC ds[i] w F _)
    injection e with e
    have hu : u = .slice L m mc := by simpa [RecD.cells] using e
    subst hu
    refine ⟨L, m, mc, ?_, hm, hp⟩
    rw [Nat.zero_add]
    exact ⟨g1 0 _ rfl, g1 1 _ rfl, g1 2 _ rfl, g1 3 _ rfl, g1 4 _ rfl, g1 5 _ rfl, g1 6 _ rfl, g1 7 _ rfl, g1 8 _ rfl⟩
theorem OwnCS.len {ds : List RecD} {w : World} {F : Nat → Prop} {v : Value} (h : OwnCS ds w F v) : ds.length ≤ maxLen := by
  rcases h with ⟨rfl, rfl⟩ | ⟨G, c, Fs, hG, e, h1, h2, hR, hF⟩
  · exact Nat.zero_le _
  · omega
theorem RecsOwn.cs {w : World} {G lo n c : Nat} {ds : List RecD} (h : RecsOwn w G lo n (recsK ds n)) (hn : ds.length = n) (hc : n ≤ c) (hm : c ≤ maxLen) : OwnCS ds w (Iv lo w.heap.size) (.slice (some ⟨G, 0, none⟩) n c) := by
  subst hn
  obtain ⟨hg, Fs, hR, hF⟩ := h
  exact .inr ⟨G, c, Fs, ⟨hg, hR.lt⟩, rfl, hc, hm, hR, fun i hi b hb => ⟨hF i hi b hb, (hF i hi b hb).2⟩⟩
/-- A journal of one's own: its two lists apart. -/
def LieJ (d : JourD) (w : World) (F : Nat → Prop) (v : Value) : Prop :=
  ∃ (u u' : Value) (F1 F2 : Nat → Prop), v = .agg #[u, u'] ∧ OwnCS d.ks w F1 u ∧ OwnCS d.ls w F2 u' ∧ (∀ b, F1 b → F b) ∧ (∀ b, F2 b → F b) ∧ ∀ b, F1 b → ¬ F2 b
theorem keepsLJ (d : JourD) : Keeps (LieJ d) :=
  ⟨fun ⟨u, u', F1, F2, e, h1, h2, s1, s2, ha⟩ ht hd => ⟨u, u', F1, F2, e, h1.turn ht (fun b hb => hd b (s1 b hb)), h2.turn ht (fun b hb => hd b (s2 b hb)), s1, s2, ha⟩, fun ⟨u, u', F1, F2, e, h1, h2, s1, s2, ha⟩ hs => ⟨u, u', F1, F2, e, h1, h2, fun b hb => hs b (s1 b hb), fun b hb => hs b (s2 b hb), ha⟩⟩
theorem LieJ.at {d : JourD} {w : World} {F : Nat → Prop} {v : Value} (h : LieJ d w F v) : AtJ d w F v := by
  obtain ⟨u, u', F1, F2, rfl, h1, h2, s1, s2, -⟩ := h
  have l1 := h1.len
  have l2 := h2.len
  obtain ⟨A, c, rfl, r1⟩ := h1.reads
  obtain ⟨A', c', rfl, r2⟩ := h2.reads
  exact ⟨A, _, c, A', _, c', rfl, l1, l2, r1.sub s1, r2.sub s2⟩
end Go.Proofs.YtmooajppfjglaaaGreat

/- Lists of records as cells: a row of nine cells a record; a list somewhere, read; conditions: none. -/
namespace Go.Proofs.YtmooajppfjglaaaGreat
open Go Go.RowKit

/-- The cells of records, each with its list. -/
def flatC (ms : List (RecD × Value)) : List Value := ms.flatMap fun p => (p.1.cells p.2).toList
theorem flatC_len (ms : List (RecD × Value)) : (flatC ms).length = ms.length * 9 := by
  induction ms with
  | nil => rfl
  | cons p ms ih =>
    have e : flatC (p :: ms) = (p.1.cells p.2).toList ++ flatC ms := rfl
    rw [e, List.length_append, ih, List.length_cons, cells_len]
    omega
theorem flatC_app (a b : List (RecD × Value)) : flatC (a ++ b) = flatC a ++ flatC b := by simp [flatC]
theorem flatC_at {ms : List (RecD × Value)} {i : Nat} (h : i < ms.length) {j : Nat} (hj : j < 9) : (flatC ms)[i * 9 + j]? = ((ms[i]).1.cells (ms[i]).2).toList[j]? := by
  induction ms generalizing i with
  | nil => simp at h
  | cons p ms ih =>
    have e : flatC (p :: ms) = (p.1.cells p.2).toList ++ flatC ms := rfl
    rw [e]
    rcases i with _ | i
    · rw [List.getElem?_append_left (by rw [cells_len]; omega)]
      simp
    · rw [List.getElem?_append_right (by rw [cells_len]; omega), cells_len, show (i + 1) * 9 + j - 9 = i * 9 + j by omega]
      exact ih (by simpa using h)
theorem flatC_one {ms : List (RecD × Value)} (h : ∀ p ∈ ms, p.2.oneCell' = true) : ∀ u ∈ flatC ms, u.oneCell' = true := by
  intro u hu
  unfold flatC at hu
  rw [List.mem_flatMap] at hu
  obtain ⟨p, hp, hu⟩ := hu
  have h2 := h p hp
  simp only [RecD.cells, List.mem_cons, List.mem_nil_iff, or_false] at hu
  rcases hu with rfl | rfl | rfl | rfl | rfl | rfl | rfl | rfl | rfl
  all_goals first | rfl | exact h2
/-- A list of pairs somewhere: nil, or at an address, in a block of F. -/
def SlcF (w : World) (F : Nat → Prop) (v : Value) (ps : List (Int × Int)) : Prop :=
  (v = .slice none 0 0 ∧ ps = []) ∨ ∃ b o n cap, v = .slice (some ⟨b, o, none⟩) n cap ∧ n ≤ maxLen ∧ PairsF w F (some ⟨b, o, none⟩) n ps
theorem SlcF.turn {T : Nat → Prop} {w w' : World} {F : Nat → Prop} {v : Value} {ps : List (Int × Int)} (h : SlcF w F v ps) (ht : Turns T w w') (hd : ∀ b, F b → ¬ T b) : SlcF w' F v ps := by
  rcases h with h | ⟨b, o, n, cap, e, hm, hp⟩
  · exact .inl h
  · exact .inr ⟨b, o, n, cap, e, hm, hp.turn ht hd⟩
theorem SlcF.sub {w : World} {F F' : Nat → Prop} {v : Value} {ps : List (Int × Int)} (h : SlcF w F v ps) (hs : ∀ b, F b → F' b) : SlcF w F' v ps := by
  rcases h with h | ⟨b, o, n, cap, e, hm, hp⟩
  · exact .inl h
  · exact .inr ⟨b, o, n, cap, e, hm, hp.1, fun hn b o e => hs b (hp.2 hn b o e)⟩
theorem SlcF.lt {w : World} {F : Nat → Prop} {v : Value} {ps : List (Int × Int)} (h : SlcF w F v ps) : SlcF w (fun b => F b ∧ b < w.heap.size) v ps := by
  rcases h with h | ⟨b, o, n, cap, e, hm, hp⟩
  · exact .inl h
  · refine .inr ⟨b, o, n, cap, e, hm, hp.1, fun hn b' o' e' => ⟨hp.2 hn b' o' e', ?_⟩⟩
    obtain ⟨b2, o2, e2, hb2, _⟩ := hp.1.2 hn
    rw [e'] at e2
    injection e2 with e2
    injection e2 with e2
    subst e2
    exact hb2
theorem SlcF.slc {w : World} {F : Nat → Prop} {v : Value} {ps : List (Int × Int)} (h : SlcF w F v ps) : Slc w v ps := by
  rcases h with h | ⟨b, o, n, cap, e, hm, hp⟩
  · exact .inl h
  · exact .inr ⟨b, o, n, cap, e, hp.1⟩
theorem SlcF.at {w : World} {F : Nat → Prop} {v : Value} {ps : List (Int × Int)} (h : SlcF w F v ps) : ∃ L m mc, v = .slice L m mc ∧ m ≤ maxLen ∧ PairsF w F L m ps := by
  rcases h with ⟨rfl, rfl⟩ | ⟨b, o, n, cap, e, hm, hp⟩
  · exact ⟨none, 0, 0, rfl, Nat.zero_le _, ⟨rfl, fun hn => absurd hn (by omega)⟩, fun hn => absurd hn (by omega)⟩
  · exact ⟨_, n, cap, e, hm, hp⟩
theorem OwnP.somewhere {w : World} {F : Nat → Prop} {v : Value} {ps : List (Int × Int)} (h : OwnP w F v ps) : SlcF w F v ps := by
  have h' := h
  rcases h with h | ⟨g, cap, hg, e, h0, h1, hh⟩
  · exact .inl h
  · obtain ⟨A, c, e', hm, hp, _⟩ := h'.at
    rw [e] at e'
    injection e' with e1 e2 e3
    subst e1
    exact .inr ⟨g, 0, _, cap, e, hm, hp⟩
/-- The records' lists can be read, through blocks of F. -/
def CertsF (w : World) (F : Nat → Prop) (ms : List (RecD × Value)) : Prop := ∀ p ∈ ms, SlcF w F p.2 p.1.ps
theorem CertsF.one {w : World} {F : Nat → Prop} {ms : List (RecD × Value)} (h : CertsF w F ms) : ∀ p ∈ ms, p.2.oneCell' = true := fun p hp => by
  obtain ⟨L, m, mc, e, -⟩ := (h p hp).at
  rw [e]
  rfl
theorem CertsF.turn {T : Nat → Prop} {w w' : World} {F : Nat → Prop} {ms : List (RecD × Value)} (h : CertsF w F ms) (ht : Turns T w w') (hd : ∀ b, F b → ¬ T b) : CertsF w' F ms := fun p hp => (h p hp).turn ht hd
theorem CertsF.later {w w' : World} {F : Nat → Prop} {ms : List (RecD × Value)} (h : CertsF w F ms) (hb : Below w.heap.size w w') : CertsF w' F ms := h.turn (T := fun _ => False) (Turns.of_below hb) (fun _ _ h => h)
theorem CertsF.sub {w : World} {F F' : Nat → Prop} {ms : List (RecD × Value)} (h : CertsF w F ms) (hs : ∀ b, F b → F' b) : CertsF w F' ms := fun p hp => (h p hp).sub hs
theorem CertsF.app {w : World} {F : Nat → Prop} {a b : List (RecD × Value)} (h : CertsF w F a) (h' : CertsF w F b) : CertsF w F (a ++ b) := fun p hp => by
  rcases List.mem_append.1 hp with hp | hp
  · exact h p hp
  · exact h' p hp
/-- Records' cells in a block, from a place on. -/
def CellsAt (w : World) (b o : Nat) (ms : List (RecD × Value)) : Prop := ∀ j x, (flatC ms)[j]? = some x → w.cell? ⟨b, o + j, none⟩ = some x
/-- A list of records somewhere: nil, or at an address. -/
def ListS (ds : List RecD) (w : World) (F : Nat → Prop) (v : Value) : Prop :=
  (v = .slice none 0 0 ∧ ds = []) ∨ ∃ b o c, v = .slice (some ⟨b, o, none⟩) ds.length c ∧ ds.length ≤ c ∧ c ≤ maxLen ∧ (0 < ds.length → F b ∧ b < w.heap.size) ∧ ∃ ms : List (RecD × Value), ms.map (·.1) = ds ∧ CertsF w F ms ∧ CellsAt w b o ms
theorem flatC_lt {ms : List (RecD × Value)} {j : Nat} {x : Value} (h : (flatC ms)[j]? = some x) : j < ms.length * 9 := by
  have := (List.getElem?_eq_some_iff.1 h).1
  rwa [flatC_len] at this
theorem ListS.turn {T : Nat → Prop} {ds : List RecD} {w w' : World} {F : Nat → Prop} {v : Value} (h : ListS ds w F v) (ht : Turns T w w') (hd : ∀ b, F b → ¬ T b) : ListS ds w' F v := by
  rcases h with h | ⟨b, o, c, e, h1, h2, h3, ms, hm, hc, hx⟩
  · exact .inl h
  · refine .inr ⟨b, o, c, e, h1, h2, fun hn => ⟨(h3 hn).1, Nat.lt_of_lt_of_le (h3 hn).2 ht.size⟩, ms, hm, hc.turn ht hd, fun j x hj => ?_⟩
    have hn : 0 < ds.length := by have := flatC_lt hj; rw [← hm, List.length_map]; omega
    exact (ht.cell (h3 hn).2 (hd b (h3 hn).1) _).trans (hx j x hj)
theorem ListS.later {ds : List RecD} {w w' : World} {F : Nat → Prop} {v : Value} (h : ListS ds w F v) (hb : Below w.heap.size w w') : ListS ds w' F v := h.turn (T := fun _ => False) (Turns.of_below hb) (fun _ _ h => h)
theorem ListS.sub {ds : List RecD} {w : World} {F F' : Nat → Prop} {v : Value} (h : ListS ds w F v) (hs : ∀ b, F b → F' b) : ListS ds w F' v := by
  rcases h with h | ⟨b, o, c, e, h1, h2, h3, ms, hm, hc, hx⟩
  · exact .inl h
  · exact .inr ⟨b, o, c, e, h1, h2, fun hn => ⟨hs b (h3 hn).1, (h3 hn).2⟩, ms, hm, hc.sub hs, hx⟩
theorem ListS.lt {ds : List RecD} {w : World} {F : Nat → Prop} {v : Value} (h : ListS ds w F v) : ListS ds w (fun b => F b ∧ b < w.heap.size) v := by
  rcases h with h | ⟨b, o, c, e, h1, h2, h3, ms, hm, hc, hx⟩
  · exact .inl h
  · exact .inr ⟨b, o, c, e, h1, h2, fun hn => ⟨h3 hn, (h3 hn).2⟩, ms, hm, fun p hp => (hc p hp).lt, hx⟩
theorem flatC_row {w : World} {b o : Nat} {ms : List (RecD × Value)} (hx : CellsAt w b o ms) {i : Nat} (hi : i < ms.length) : RecAt w b (o + i * 9) (ms[i]).1 (ms[i]).2 := by
  have C : ∀ j x, j < 9 → ((ms[i]).1.cells (ms[i]).2).toList[j]? = some x → w.cell? ⟨b, o + i * 9 + j, none⟩ = some x := fun j x hj h => by
    have h2 := hx (i * 9 + j) x (by rw [flatC_at hi hj]; exact h)
    rwa [← Nat.add_assoc] at h2
  exact ⟨C 0 _ (by omega) rfl, C 1 _ (by omega) rfl, C 2 _ (by omega) rfl, C 3 _ (by omega) rfl, C 4 _ (by omega) rfl, C 5 _ (by omega) rfl, C 6 _ (by omega) rfl, C 7 _ (by omega) rfl, C 8 _ (by omega) rfl⟩
theorem map_at {ms : List (RecD × Value)} {ds : List RecD} (hm : ms.map (·.1) = ds) {i : Nat} (h : i < ds.length) : ∃ h' : i < ms.length, (ms[i]).1 = ds[i] := by
  subst hm
  have h' : i < ms.length := by rwa [List.length_map] at h
  exact ⟨h', by simp⟩
theorem ListS.at {ds : List RecD} {w : World} {F : Nat → Prop} {v : Value} (h : ListS ds w F v) : ∃ A c, v = .slice A ds.length c ∧ ds.length ≤ maxLen ∧ RecsF ds w F A ds.length := by
  rcases h with ⟨rfl, rfl⟩ | ⟨b, o, c, e, h1, h2, h3, ms, hm, hc, hx⟩
  · exact ⟨none, 0, rfl, Nat.zero_le _, rfl, fun hn => absurd hn (Nat.lt_irrefl _)⟩
  · refine ⟨_, c, e, Nat.le_trans h1 h2, rfl, fun hn => ⟨b, o, rfl, (h3 hn).1, (h3 hn).2, fun i hi => ?_⟩⟩
    obtain ⟨hi', ed⟩ := map_at hm hi
    obtain ⟨L, m, mc, e1, h4, h5⟩ := (hc ms[i] (List.getElem_mem hi')).at
    have hr := flatC_row hx hi'
    rw [ed, e1] at hr
    rw [ed] at h5
    exact ⟨L, m, mc, hr, h4, h5⟩
theorem OwnCS.list {ds : List RecD} {w : World} {F : Nat → Prop} {v : Value} (h : OwnCS ds w F v) : ListS ds w F v := by
  rcases h with h | ⟨G, c, Fs, hG, e, h1, h2, hR, hF⟩
  · exact .inl h
  · have each : ∀ i, i < ds.length → ∃ u : Value, ∀ hi : i < ds.length, w.rangeAt G (i * 9) ((ds[i]).cells u).toList ∧ SlcF w F u (ds[i]).ps := by
      intro i hi
      obtain ⟨u, g1, g2⟩ := hR.row i hi
      rw [recsK_at rfl hi] at g1 g2
      obtain ⟨u', e', ho⟩ := g2
      injection e' with e'
      have hu : u = u' := by simpa [RecD.cells] using e'
      subst hu
      exact ⟨u, fun _ => ⟨g1, (ho.sub (fun b hb => (hF i hi b hb).1)).somewhere⟩⟩
    haveI : Inhabited Value := ⟨.slice none 0 0⟩
    obtain ⟨q, hq⟩ := Go.Deep.choose_lt each
    have hlen : (ds.mapIdx fun i d => (d, q i)).length = ds.length := by simp
    refine .inr ⟨G, 0, c, e, h1, h2, fun _ => ⟨hG, hR.lt⟩, ds.mapIdx fun i d => (d, q i), ?_, fun p hp => ?_, fun j x hj => ?_⟩
    · apply List.ext_getElem
      · simp
      · intro i h1 h2
        simp
    · obtain ⟨i, hi, rfl⟩ := List.mem_iff_getElem.1 hp
      rw [hlen] at hi
      simp only [List.getElem_mapIdx]
      exact (hq i hi hi).2
    · have hjl := flatC_lt hj
      rw [hlen] at hjl
      have hi : j / 9 < ds.length := by omega
      have hjm : j % 9 < 9 := by omega
      have e := flatC_at (ms := ds.mapIdx fun i d => (d, q i)) (i := j / 9) (by rw [hlen]; exact hi) hjm
      rw [show j / 9 * 9 + j % 9 = j by omega, hj] at e
      simp only [List.getElem_mapIdx] at e
      have h3 := (hq (j / 9) hi hi).1 (j % 9) x e.symm
      rwa [show j / 9 * 9 + j % 9 = 0 + j by omega] at h3
theorem ListS.src {ds : List RecD} {w : World} {F : Nat → Prop} {v : Value} (h : ListS ds w F v) : ∃ ms : List (RecD × Value), ms.map (·.1) = ds ∧ CertsF w F ms ∧ Src w v ds.length 9 (flatC ms) := by
  rcases h with ⟨rfl, rfl⟩ | ⟨b, o, c, e, h1, h2, h3, ms, hm, hc, hx⟩
  · exact ⟨[], rfl, fun p hp => absurd hp (List.not_mem_nil), .inl ⟨rfl, rfl, rfl⟩⟩
  · refine ⟨ms, hm, hc, .inr ⟨⟨b, o, none⟩, c, e, ?_, fun j x hj => ?_, flatC_one hc.one⟩⟩
    · rw [flatC_len, ← hm, List.length_map]
    · rw [show (⟨b, o, none⟩ : Addr).add j = ⟨b, o + j, none⟩ by unfold Addr.add; split <;> simp_all]
      exact hx j x hj
/-- A row of one's own, whose records' lists can be read, is a list. -/
theorem row_list {w : World} {base n : Nat} {t : TypeId} {v : Value} {ms : List (RecD × Value)} {F : Nat → Prop} (h : w.ownsRow base t 9 v n (flatC ms)) (hn : ms.length = n) (hc : CertsF w F ms) (hF : ∀ b, base ≤ b → b < w.heap.size → F b) : ListS (ms.map (·.1)) w F v := by
  have hlen : (ms.map (·.1)).length = n := by rw [List.length_map, hn]
  rcases h.2 with ⟨e, h0⟩ | ⟨g, cap, cur, e, hb, hg, h1, h2, -, -⟩
  · refine .inl ⟨e, List.eq_nil_of_length_eq_zero (by rw [hlen, h0])⟩
  · have hgl : g < w.heap.size := (h.lt g (by rw [e]; rfl)).2
    subst e
    refine .inr ⟨g, 0, cap, by rw [hlen], by rw [hlen]; exact h1, h2, fun _ => ⟨hF g hb hgl, hgl⟩, ms, rfl, hc, fun j x hj => ?_⟩
    have := flatC_lt hj
    rw [Nat.zero_add, h.cellAt j (by omega)]
    exact hj
theorem Src.later {w w' : World} {u : Value} {m size : Nat} {news : List Value} (h : Src w u m size news) (hb : Below w.heap.size w w') : Src w' u m size news := by
  rcases h with h | ⟨ad, c, e, h1, h2, h3⟩
  · exact .inl h
  · exact .inr ⟨ad, c, e, h1, fun j x hx => by
      have h4 := h2 j x hx
      exact (hb.cell (p := ad.add j) (block_lt_of_cell h4)).trans h4, h3⟩
end Go.Proofs.YtmooajppfjglaaaGreat

/- The library's Grow and Concat over lists of records: two of them, one behind the other; conditions: the sizes. -/
namespace Go.Proofs.YtmooajppfjglaaaGreat
open Go Go.RowKit

theorem Tryz.infoRecI : (Tryz.prog.info? 42).map (fun i => (i.zero, i.size, i.bytes)) = some (some (.agg #[.int .i64 0, .int .i64 0, .int .i64 0, .int .i64 0, .int .i64 0, .int .i64 0, .int .i64 0, .slice none 0 0, .int .i64 0]), 9, 88) := by kernel_rfl
set_option maxRecDepth 100000 in
set_option maxHeartbeats 1000000 in
theorem growRec_is (n : Nat) (w : World) (hn : n ≤ 4194304) :
    Calls Tryz.prog 122 #[.slice none 0 0, .int .i64 n] w fun e w' => ∃ v, e = .returned v ∧ w'.ownsRow w.heap.size 42 9 v 0 [] ∧ Below w.heap.size w w' := by
  obtain ⟨i0, hi0, hz0, hz1, hz2⟩ := info_parts Tryz.infoRecI
  rcases Nat.eq_zero_or_pos n with rfl | hpos
  · go_enter Tryz.func122, Tryz.ntmps122
    go_wp2
    go_ret
    exact ⟨_, rfl, World.ownsRow_nil w _ _ _, Below.refl _ _⟩
  · have hrz : ∀ ty, (Builtin.append_ #[27, 3] ty #[.slice none 0 0, .int .i64 (n : Int)]).run Tryz.prog w =
        .ok (.slice (some ⟨w.heap.size, 0, none⟩) n (grownCap w n 0 42)) (w.drew.alloc (.cells (#[] ++ Builtin.zeroCells (Value.agg #[.int .i64 0, .int .i64 0, .int .i64 0, .int .i64 0, .int .i64 0, .int .i64 0, .int .i64 0, .slice none 0 0, .int .i64 0]).cells n ++ Builtin.zeroCells (Value.agg #[.int .i64 0, .int .i64 0, .int .i64 0, .int .i64 0, .int .i64 0, .int .i64 0, .int .i64 0, .slice none 0 0, .int .i64 0]).cells (grownCap w n 0 42 - n)) 42)) := fun ty => by
      have h := Lib.run_append_grow_zeros w 27 3 ty 42 i0 _ .i64 .i64 Tryz.underlying27 Tryz.underlying3 hi0 hz0 none 0 0 [] (run_firstCells_none w.drew i0.size 0 0 0) n (by omega) (by omega) (by omega) (by omega)
        (by rw [hz2]; omega) (by rw [Nat.zero_add]; exact growslice_fits hpos (by rw [hz2]; omega))
      simpa using h
    have hGn := grownCap_ge w n 0 42
    have hGm := grownCap_le_maxLen w n 0 42 (by unfold maxLen; omega)
    generalize grownCap w n 0 42 = G at hrz hGn hGm
    have hG := Lib.hid hGm
    unfold maxLen at hGm
    have hp : (0 : Int) < (n : Int) := by omega
    go_enter Tryz.func122, Tryz.ntmps122
    go_wp2_with (at_builtin; refine Lib.wpList_append_run _ rfl _ _ _ _ rfl _ _ rfl rfl _ _ (hrz _) ?_)
    go_ret
    refine ⟨_, rfl, ?_, ((Below.refl _ _).drew).alloc (Nat.le_refl _) _⟩
    exact World.ownsRow_made w.drew _ G (Nat.le_refl _) hG.out (by simp [size_zeroCells]; show n * 9 + (G - n) * 9 = G * 9; omega)

set_option maxRecDepth 100000 in
set_option maxHeartbeats 1000000 in
theorem concatRec_is (q : Nat) (v v' : Value) (n n' : Nat) (xs xs' : List Value) (w : World) (hn : n + n' ≤ 2097152) (Q : Box w q 27 #[v, v']) (h : Src w v n 9 xs) (h' : Src w v' n' 9 xs') :
    Calls Tryz.prog 75 #[.slice (some ⟨q, 0, none⟩) 2 2] w fun e w' => ∃ u, e = .returned u ∧ w'.ownsRow w.heap.size 42 9 u (n + n') (xs ++ xs') ∧ Below w.heap.size w w' := by
  obtain ⟨i0, hi0, hz0, hz1, hz2⟩ := info_parts Tryz.infoRecI
  have hq := Q.lt
  obtain ⟨A, cap, hv⟩ : ∃ (A : Option Addr) (cap : Nat), v = .slice A n cap := by
    rcases h with ⟨rfl, rfl, _⟩ | ⟨ad, c, rfl, _⟩ <;> exact ⟨_, _, rfl⟩
  obtain ⟨A', cap', hv'⟩ : ∃ (A : Option Addr) (cap : Nat), v' = .slice A n' cap := by
    rcases h' with ⟨rfl, rfl, _⟩ | ⟨ad, c, rfl, _⟩ <;> exact ⟨_, _, rfl⟩
  subst hv hv'
  have HQ := Lib.hid Q
  have HS := Lib.hid h
  have HS' := Lib.hid h'
  clear Q h h'
  obtain ⟨s, hs, hs'⟩ : ∃ s : Nat, (n : Int) + (n' : Int) = (s : Int) ∧ n + n' = s := ⟨n + n', by omega, rfl⟩
  have hs' := Lib.hid hs'
  rename_i q1
  clear q1
  go_enter Tryz.func75, Tryz.ntmps75
  go_wp2_with fail
  go_loopw [3, 11] (fun sv iv wr => wr = w ∧ ((sv = .int .i64 0 ∧ iv = .int .i64 0) ∨ (sv = .int .i64 n ∧ iv = .int .i64 1) ∨ (sv = .int .i64 s ∧ iv = .int .i64 2))) (fun _ i _ => 2 - (intOf i).toNat)
  case atStart => exact ⟨rfl, .inl ⟨rfl, rfl⟩⟩
  case round =>
    obtain ⟨rfl, ⟨rfl, rfl⟩ | ⟨rfl, rfl⟩ | ⟨rfl, rfl⟩⟩ := hrel
    · obtain ⟨c0, c1⟩ := HQ.out.two
      go_wp2
      go_roundw
      case rel => exact ⟨trivial, .inr (.inl ⟨by go_num, rfl⟩)⟩
      case measure => simp [intOf]
    · obtain ⟨c0, c1⟩ := HQ.out.two
      go_wp2
      go_roundw
      case rel => exact ⟨trivial, .inr (.inr ⟨rfl, rfl⟩)⟩
      case measure => simp [intOf]
    · go_wp2_with fail
      refine (growRec_is s _ (by have := hs'.out; omega)).mono ?_
      rintro e w1 ⟨u, rfl, hown, hb⟩
      have hown1 := Lib.hid hown
      clear hown
      obtain ⟨w0, rfl⟩ : ∃ w0, w0 = wr := ⟨_, rfl⟩
      go_wp2_with fail
      go_loopw [6, 27] (fun uv iv wr => Below w0.heap.size w0 wr ∧ ((iv = .int .i64 0 ∧ wr.ownsRow w0.heap.size 42 9 uv 0 []) ∨ (iv = .int .i64 1 ∧ wr.ownsRow w0.heap.size 42 9 uv n xs) ∨ (iv = .int .i64 2 ∧ wr.ownsRow w0.heap.size 42 9 uv s (xs ++ xs')))) (fun _ i _ => 2 - (intOf i).toNat)
      case atStart => exact ⟨hb, .inl ⟨rfl, hown1.out⟩⟩
      case round =>
        obtain ⟨hbel, ⟨rfl, hown⟩ | ⟨rfl, hown⟩ | ⟨rfl, hown⟩⟩ := hrel
        · have hc := (HQ.out.later hbel HQ.out.lt |>.two)
          rcases HS.out with ⟨hv, hps, hxs⟩ | ⟨ad, c, hv, hl, hnews, hone⟩
          · injection hv with e1 e2 e3
            subst e1 e2 e3
            have hxs := Lib.hid hxs
            rename_i q1
            clear q1 hps
            go_wp2_with (at_builtin; refine wpList_append_own_none rfl _ _ _ rfl w0.heap.size 42 i0 9 Tryz.underlying27 hi0 u6 0 [] rfl hown rfl ?_)
            go_roundw
            case rel => exact ⟨hbel, .inr (.inl ⟨rfl, by rw [hxs.out]; exact hown⟩)⟩
            case measure => simp [intOf]
          · injection hv with e1 e2 e3
            subst e1 e3
            have hbs := hbel.size
            have hoL := Lib.hid hown
            have hN : ∀ j x, xs[j]? = some x → wr.cell? (ad.add j) = some x := fun j x hx => by
              have := hnews j x hx
              exact (hbel.cell (p := ad.add j) (block_lt_of_cell this)).trans this
            have HN := Lib.hid hN
            have HO := Lib.hid hone
            have HLn := Lib.hid hl
            clear hN hone hl hnews
            go_wp2_with (at_builtin; refine wpList_append_own _ rfl _ _ _ rfl w0.heap.size 42 i0 _ 9 88 Tryz.underlying27 hi0 hz0 hz1 hz2 rfl (by omega) u6 0 [] rfl hown ad n cap xs rfl HLn.out HN.out HO.out (by unfold maxLen; omega) (by omega) hbs ?_; intro u1 w2 hown2 hgrow2 _)
            have E2 := hbel.grown hgrow2 hbs (fun k hk => (hoL.out.lt k hk).1)
            have hown3 := Lib.hid hown2
            clear hown2
            go_roundw
            case rel => exact ⟨E2, .inr (.inl ⟨rfl, by simpa using hown3.out⟩)⟩
            case measure => simp [intOf]
        · have hc := (HQ.out.later hbel HQ.out.lt |>.two)
          rcases HS'.out with ⟨hv, hps, hxs⟩ | ⟨ad, c, hv, hl, hnews, hone⟩
          · injection hv with e1 e2 e3
            subst e1 e2 e3
            have hxs := Lib.hid hxs
            rename_i q1
            clear q1 hps
            go_wp2_with (at_builtin; refine wpList_append_own_none rfl _ _ _ rfl w0.heap.size 42 i0 9 Tryz.underlying27 hi0 u6 n xs rfl hown rfl ?_)
            go_roundw
            case rel => exact ⟨hbel, .inr (.inr ⟨rfl, by rw [hxs.out, List.append_nil, ← hs'.out]; exact hown⟩)⟩
            case measure => simp [intOf]
          · injection hv with e1 e2 e3
            subst e1 e3
            have hbs := hbel.size
            have hoL := Lib.hid hown
            have hN : ∀ j x, xs'[j]? = some x → wr.cell? (ad.add j) = some x := fun j x hx => by
              have := hnews j x hx
              exact (hbel.cell (p := ad.add j) (block_lt_of_cell this)).trans this
            have HN := Lib.hid hN
            have HO := Lib.hid hone
            have HLn := Lib.hid hl
            clear hN hone hl hnews
            go_wp2_with (at_builtin; refine wpList_append_own _ rfl _ _ _ rfl w0.heap.size 42 i0 _ 9 88 Tryz.underlying27 hi0 hz0 hz1 hz2 rfl (by omega) u6 n xs rfl hown ad n' cap' xs' rfl HLn.out HN.out HO.out (by unfold maxLen; omega) (by omega) hbs ?_; intro u1 w2 hown2 hgrow2 _)
            have E2 := hbel.grown hgrow2 hbs (fun k hk => (hoL.out.lt k hk).1)
            have hown3 := Lib.hid hown2
            clear hown2
            go_roundw
            case rel => exact ⟨E2, .inr (.inr ⟨rfl, by rw [← hs'.out]; exact hown3.out⟩)⟩
            case measure => simp [intOf]
        · have hown2 := Lib.hid hown
          clear hown
          go_wp2
          go_ret
          exact ⟨_, rfl, by rw [hs'.out]; exact hown2.out, hbel⟩
end Go.Proofs.YtmooajppfjglaaaGreat

/- Sink's walk inside a fence that asks nothing of a function, in a round or in none: a region that draws its order, no operation of it a defer; no conditions. -/
namespace Go.Proofs.YtmooajppfjglaaaGreat
open Go

/-- A fence that lets every function in, and a region without a defer. -/
def Plain (F : Fence) (ops : Array Oper) : Prop := (∀ f, F.fn f) ∧ ∀ (j : Nat) (o : Oper), ops[j]? = some o → ∀ ρ : Operand → Value, o.semAt F.round ρ = execOp ρ o
def noDefer (ops : Array Oper) : Bool := ops.all fun o => match o.op with | .defer _ => false | _ => true
theorem plain_of {F : Fence} {ops : Array Oper} (hF : ∀ f, F.fn f) (h : noDefer ops = true) : Plain F ops := ⟨hF, fun j o ho ρ => by
  refine Oper.semAt_eq _ _ _ (fun c hc => ?_)
  unfold noDefer at h
  rw [Array.all_eq_true_iff_forall_mem] at h
  have := h o (Array.mem_of_getElem? ho)
  rw [hc] at this
  cases this⟩

section
variable {F : Fence} {n : Nat} {P : Program} {ops : Array Oper} {Q : Exit → Act → World → Prop} {md : Region.Mode} {S T : World → Prop} {z : Nat}

theorem _root_.Go.YieldsIf.wpOpIn (hsem : Plain F ops) {i : Nat} {o : Oper} {v : Value} {a : Act} (hi : ops[i]? = some o) (hy : YieldsIf P ops S o v a)
    {K : Act → World → Prop} {w : World} (hS : S w) (h : K (a.put o.dst v) w) : wpOpIn F n P ops Q i K a w := by
  unfold Go.wpOpIn
  simp only [hi]
  rcases hy with ⟨hw, hv⟩ | ⟨hw, rfl⟩
  · simp only [hw, if_true, Oper.wpIn, hsem.2 i o hi, hv w hS, Oper.uponIn]; exact ⟨fun f _ => hsem.1 f, h⟩
  · simp only [hw, Bool.false_eq_true, if_false]; exact ⟨fun f _ => hsem.1 f, h⟩
theorem wpOpIn_putIf (hsem : Plain F ops) {j : Nat} {oi oj : Oper} {v : Value} (hj : ops[j]? = some oj) (hap : oi.apart ops oj = true)
    (hsi : ∀ cs b, oi.op ≠ .select cs b) (hsj : ∀ cs b, oj.op ≠ .select cs b)
    (hQ : ∀ c a w, Q (.panic c) (a.put oi.dst v) w → Q (.panic c) a w) {K : Act → World → Prop} {a : Act} {w : World}
    (hy : YieldsIf P ops S oi v a) (h : wpOpIn F n P ops Q j K (a.put oi.dst v) w) :
    wpOpIn F n P ops Q j (fun a' w' => YieldsIf P ops S oi v a' ∧ K (a'.put oi.dst v) w') a w := by
  obtain ⟨h1, h2, h3⟩ := Oper.apart_spec hap
  have keep : ∀ (a : Act), YieldsIf P ops S oi v a → ∀ u, YieldsIf P ops S oi v (a.put oj.dst u) := fun a hy u =>
    hy.of_same (execOp_put oi hsi a oj.dst u h3) (wanted_put oi a oj.dst u h3)
  have swap : ∀ {u : Value} {w' : World}, K ((a.put oi.dst v).put oj.dst u) w' → YieldsIf P ops S oi v (a.put oj.dst u) ∧ K ((a.put oj.dst u).put oi.dst v) w' :=
    fun h => ⟨keep a hy _, by rw [← Act.put_comm a v _ h2]; exact h⟩
  have hjs := hsem.2 j oj hj
  have hfn := hsem.1
  unfold wpOpIn at *
  simp only [hj] at h ⊢
  rw [wanted_put oj a oi.dst v h1] at h
  split
  · rename_i hw
    simp only [hw, if_true] at h
    unfold Oper.wpIn at *
    refine ⟨fun f _ => hfn f, ?_⟩
    have h := h.2
    rw [hjs, execOp_put oj hsj a oi.dst v h1] at h
    rw [hjs]
    generalize (execOp a.eval oj).run P w = r at *
    cases r with
    | ok x w' =>
      cases x <;> simp only [Oper.uponIn] at h ⊢
      case value u => exact swap h
      case skip => exact swap h
      case defer d =>
        refine ⟨keep { a with defers := d :: a.defers } (hy.of_same rfl rfl) _, ?_⟩
        rw [← Act.put_comm _ v undef h2, ← Act.put_defers]
        exact h
      case enter f args => exact ⟨h.1, CallsIn.mono h.2 fun e w'' he => by cases e <;> first | exact swap he | exact hQ _ _ _ he | exact he⟩
      case row row args => exact ⟨h.1, RowsIn.mono h.2 fun u w'' he => swap he⟩
      case round l f tmps assign body => exact ⟨h.1, RoundIn.mono h.2 fun e w'' he => by cases e <;> first | exact swap he | exact hQ _ _ _ he | exact he⟩
    | halt x w' =>
      cases x <;> simp only [Oper.uponIn] at h ⊢
      case panic u => exact hQ _ _ _ h
  · rename_i hw
    simp only [hw] at h
    exact ⟨fun f _ => hsem.1 f, swap h.2⟩

/-- Whatever order is picked from here on, and S holds behind every operation till number z has come up. -/
def wpAnyEI (F : Fence) (n : Nat) (P : Program) (md : Region.Mode) (ops : Array Oper) (Q : Exit → Act → World → Prop) (S : World → Prop) (z : Nat) : Nat → Array Bool → Act → World → Prop
  | 0, listed, a, w => Region.ready md ops listed = [] ∧ Q .normal a w
  | fuel + 1, listed, a, w =>
    (Region.ready md ops listed = [] → Q .normal a w) ∧
    ∀ i ∈ Region.ready md ops listed, wpOpIn F n P ops Q i (fun a' w' => (i ≠ z → listed.getD z false = false → S w') ∧ wpAnyEI F n P md ops Q S z fuel (listed.setIfInBounds i true) a' w') a w

theorem wpAnyIn_of_sink : ∀ (fuel : Nat) (listed : Array Bool) (a : Act) (w : World), wpAnyEI F n P md ops Q S z fuel listed a w → wpAnyIn F n P md ops Q fuel listed a w
  | 0, _, _, _, h => h
  | fuel + 1, _, _, _, h => ⟨h.1, fun i hi => wpOpIn_mono (fun a' w' h' => wpAnyIn_of_sink fuel _ a' w' h'.2) (h.2 i hi)⟩

theorem wpAnyEI_first {i : Nat} {oi : Oper} {v : Value} (hsem : Plain F ops) (hi : ops[i]? = some oi) (hsel : ∀ (j : Nat) (o : Oper) cs b, ops[j]? = some o → o.op ≠ .select cs b)
    (hQ : ∀ c a w, Q (.panic c) (a.put oi.dst v) w → Q (.panic c) a w) (hiz : i ≠ z) :
    ∀ (fuel : Nat) (listed : Array Bool) (a : Act) (w : World),
      (∀ j oj, ops[j]? = some oj → j ≠ i → listed.getD j true = false → (∀ e ∈ oj.after, Region.binds md e = true → e.on ≠ i) → oi.apart ops oj = true) →
      i ∈ Region.ready md ops listed → YieldsIf P ops T oi v a → FirstAt md ops S T z i listed → (listed.getD z false = false → S w) →
      wpAnyEI F n P md ops Q S z fuel (listed.setIfInBounds i true) (a.put oi.dst v) w → wpAnyEI F n P md ops Q S z (fuel + 1) listed a w := by
  intro fuel
  induction fuel with
  | zero =>
    intro listed a w _ hr hy hF hS H
    have hT : T w := by
      rcases hF with h | ⟨h, _, hl⟩
      · exact h w
      · exact h w (hS hl)
    refine ⟨fun h => (by rw [h] at hr; cases hr), fun j hj => ?_⟩
    by_cases hji : j = i
    · subst hji; exact hy.wpOpIn hsem hi hT ⟨fun _ h => hS h, H⟩
    · have := ready_mono hj hji
      rw [H.1] at this
      cases this
  | succ fuel ih =>
    intro listed a w hfree hr hy hF hS H
    have hT : T w := by
      rcases hF with h | ⟨h, _, hl⟩
      · exact h w
      · exact h w (hS hl)
    refine ⟨fun h => (by rw [h] at hr; cases hr), fun j hj => ?_⟩
    by_cases hji : j = i
    · subst hji; exact hy.wpOpIn hsem hi hT ⟨fun _ h => hS h, H⟩
    · have h1 := H.2 j (ready_mono hj hji)
      obtain ⟨hjun, oj, hoj, hall⟩ := mem_ready.1 hj
      have hun := (mem_ready.1 hr).1
      have hnot : ∀ e ∈ oj.after, Region.binds md e = true → e.on ≠ i := fun e he hb heq => by
        have h1 := hall e he hb
        rw [heq, getD_both hun] at h1
        cases h1
      have hzset : (listed.setIfInBounds i true).getD z false = listed.getD z false := getD_set_ne false hiz
      have h2 := wpOpIn_putIf hsem hoj (hfree j oj hoj hji hjun hnot) (fun cs b => hsel i oi cs b hi) (fun cs b => hsel j oj cs b hoj) hQ hy h1
      have hfree' : ∀ k ok, ops[k]? = some ok → k ≠ i → (listed.setIfInBounds j true).getD k true = false →
          (∀ e ∈ ok.after, Region.binds md e = true → e.on ≠ i) → oi.apart ops ok = true := fun k ok hk hki hun hno => by
        refine hfree k ok hk hki ?_ hno
        by_cases hjk : j = k
        · subst hjk; exact hjun
        · rw [getD_set_ne true hjk] at hun; exact hun
      have hF' : FirstAt md ops S T z i (listed.setIfInBounds j true) := by
        rcases hF with h | ⟨h, hw, hl⟩
        · exact .inl h
        · refine .inr ⟨h, hw, ?_⟩
          by_cases hjz : j = z
          · subst hjz
            obtain ⟨o', ho', e, he, hb, hon⟩ := Region.waitsFor_spec hw
            have : o' = oj := Option.some.inj (ho'.symm.trans hoj)
            subst this
            exact absurd hon (hnot e he hb)
          · rw [getD_set_ne false hjz]; exact hl
      refine wpOpIn_mono (fun a' w' h3 => ⟨fun hjz hlz => h3.2.1 hjz (hzset.trans hlz), ih (listed.setIfInBounds j true) a' w' hfree' (ready_mono hr (Ne.symm hji)) h3.1 hF' (fun hz' => ?_) ?_⟩) h2
      · by_cases hjz : j = z
        · subst hjz
          have hs : j < listed.size := by
            rcases Nat.lt_or_ge j listed.size with h | h
            · exact h
            · simp [Array.getElem?_eq_none h] at hjun
          simp [hs] at hz'
        · rw [getD_set_ne false hjz] at hz'
          exact h3.2.1 hjz (hzset.trans hz')
      · rw [Array.setIfInBounds_comm _ _ hji]
        exact h3.2.2

/-- Take number i first, which yields in whatever world. -/
theorem wpAnyEI_pure {i : Nat} {oi : Oper} {v : Value} (hsem : Plain F ops) {fuel : Nat} {listed : Array Bool} {a : Act} {w : World} (hi : ops[i]? = some oi)
    (hs : Region.noSelect ops = true) (hf : Region.free md ops listed i = true) (hr : (Region.ready md ops listed).contains i = true)
    (hQ : ∀ c a w, Q (.panic c) (a.put oi.dst v) w → Q (.panic c) a w) (hz : (i == z) = false) (hy : YieldsIf P ops (fun _ => True) oi v a) (hS : S w)
    (h : wpAnyEI F n P md ops Q S z fuel (listed.setIfInBounds i true) (a.put oi.dst v) w) : wpAnyEI F n P md ops Q S z (fuel + 1) listed a w :=
  wpAnyEI_first hsem hi (Region.noSelect_spec hs) hQ (by simpa using hz) fuel listed a w (Region.free_spec hi hf) (by simpa using hr) hy (.inl fun _ => trivial) (fun _ => hS) h
/-- Number i alone can come up, and is not the last: S is to be shown anew. -/
theorem wpAnyEI_one {i : Nat} {o : Oper} {fuel : Nat} {listed : Array Bool} {a : Act} {w : World} (hr : Region.ready md ops listed = [i]) (ho : ops[i]? = some o)
    (h : ∀ K' : Act → World → Prop, Shut (∀ a w, S w → (S w → wpAnyEI F n P md ops Q S z fuel (listed.setIfInBounds i true) a w) → K' a w) → if Region.wanted o (yielded ops a.tmps) = true then Oper.wpIn F n P o a w K' Q else (∀ f, o.about P w a.eval = some f → F.fn f) ∧ K' (a.put o.dst undef) w) : wpAnyEI F n P md ops Q S z (fuel + 1) listed a w := by
  refine ⟨fun h0 => (by rw [hr] at h0; cases h0), fun j hj => ?_⟩
  rw [hr] at hj
  have e : j = i := by simpa using hj
  subst e
  exact wpOpIn_step ho (fun K' hK => h K' (fun a w hS hW => hK a w ⟨fun _ _ => hS, hW hS⟩))
/-- The last one. -/
theorem wpAnyEI_last {o : Oper} {fuel : Nat} {listed : Array Bool} {a : Act} {w : World} (hr : Region.ready md ops listed = [z]) (ho : ops[z]? = some o) (hend : Region.ready md ops (listed.setIfInBounds z true) = [])
    (h : ∀ K' : Act → World → Prop, Shut (∀ a w, Q .normal a w → K' a w) → if Region.wanted o (yielded ops a.tmps) = true then Oper.wpIn F n P o a w K' Q else (∀ f, o.about P w a.eval = some f → F.fn f) ∧ K' (a.put o.dst undef) w) : wpAnyEI F n P md ops Q S z (fuel + 1) listed a w := by
  refine ⟨fun h0 => (by rw [hr] at h0; cases h0), fun j hj => ?_⟩
  rw [hr] at hj
  have e : j = z := by simpa using hj
  subst e
  refine wpOpIn_step ho (fun K' hK => h K' (fun a w hW => hK a w ⟨fun h => absurd rfl h, ?_⟩))
  cases fuel with
  | zero => exact ⟨hend, hW⟩
  | succ f => exact ⟨fun _ => hW, by rw [hend]; simp⟩
theorem wpIn_region_sink {id : Nat} {a : Act} {w : World} (z : Nat) (S : World → Prop) (hm : P.follows .mixedOrders = true) (hS : S w.drew)
    (h : S w.drew → wpAnyEI F n P .any ops Q S z ops.size (Array.replicate ops.size false) a w.drew) : (Code.region id ops true).wpIn F n P Q a w :=
  wpIn_region_any hm (wpAnyIn_of_sink _ _ _ _ (h hS))
/-- A way from i to z: each waits for the one before it. -/
def wayTo (md : Region.Mode) (ops : Array Oper) (z : Nat) : Nat → List Nat → Bool
  | i, [] => Region.waitsFor md ops z i
  | i, p :: ps => Region.waitsFor md ops p i && wayTo md ops z p ps
theorem not_on_way {j : Nat} {listed : Array Bool} (hj : j ∈ Region.ready md ops listed) : ∀ (path : List Nat) (i : Nat), wayTo md ops z i path = true → listed.getD i true = false → (∀ p ∈ z :: path, listed.getD p true = false) → j ∉ z :: path := by
  obtain ⟨hjun, oj, hoj, hall⟩ := mem_ready.1 hj
  have step : ∀ i p, Region.waitsFor md ops p i = true → listed.getD i true = false → j ≠ p := fun i p hw hun e => by
    subst e
    obtain ⟨o', ho', e, he, hb, hon⟩ := Region.waitsFor_spec hw
    have : o' = oj := Option.some.inj (ho'.symm.trans hoj)
    subst this
    have h1 := hall e he hb
    rw [hon, getD_both hun] at h1
    cases h1
  intro path
  induction path with
  | nil =>
    intro i hw hun _ hm
    have e : j = z := by simpa using hm
    exact step i z hw hun e
  | cons p ps ih =>
    intro i hw hun hp hm
    unfold wayTo at hw
    rw [Bool.and_eq_true] at hw
    have hne := step i p hw.1 hun
    have hz := ih p hw.2 (hp p (by simp)) (fun q hq => hp q (by
      rcases List.mem_cons.1 hq with rfl | hq
      · simp
      · simp [hq]))
    rcases List.mem_cons.1 hm with e | hm
    · exact hz (by rw [e]; simp)
    · rcases List.mem_cons.1 hm with e | hm
      · exact hne e
      · exact hz (List.mem_cons_of_mem _ hm)
/-- Take number i first, which yields where S holds, and z comes up behind it only. -/
theorem wpAnyEI_firstP {i : Nat} {oi : Oper} {v : Value} (hsem : Plain F ops) (hi : ops[i]? = some oi) (hsel : ∀ (j : Nat) (o : Oper) cs b, ops[j]? = some o → o.op ≠ .select cs b)
    (hQ : ∀ c a w, Q (.panic c) (a.put oi.dst v) w → Q (.panic c) a w) (hiz : i ≠ z) (path : List Nat) (hway : wayTo md ops z i path = true) :
    ∀ (fuel : Nat) (listed : Array Bool) (a : Act) (w : World),
      (∀ j oj, ops[j]? = some oj → j ≠ i → listed.getD j true = false → (∀ e ∈ oj.after, Region.binds md e = true → e.on ≠ i) → oi.apart ops oj = true) →
      i ∈ Region.ready md ops listed → YieldsIf P ops S oi v a → (∀ p ∈ z :: path, listed.getD p true = false) → S w →
      wpAnyEI F n P md ops Q S z fuel (listed.setIfInBounds i true) (a.put oi.dst v) w → wpAnyEI F n P md ops Q S z (fuel + 1) listed a w := by
  intro fuel
  induction fuel with
  | zero =>
    intro listed a w _ hr hy _ hS H
    refine ⟨fun h => (by rw [h] at hr; cases hr), fun j hj => ?_⟩
    by_cases hji : j = i
    · subst hji; exact hy.wpOpIn hsem hi hS ⟨fun _ _ => hS, H⟩
    · have := ready_mono hj hji
      rw [H.1] at this
      cases this
  | succ fuel ih =>
    intro listed a w hfree hr hy hl hS H
    refine ⟨fun h => (by rw [h] at hr; cases hr), fun j hj => ?_⟩
    by_cases hji : j = i
    · subst hji; exact hy.wpOpIn hsem hi hS ⟨fun _ _ => hS, H⟩
    · have h1 := H.2 j (ready_mono hj hji)
      have hun := (mem_ready.1 hr).1
      have hnw := not_on_way hj path i hway hun hl
      obtain ⟨hjun, oj, hoj, hall⟩ := mem_ready.1 hj
      have hjz : j ≠ z := fun e => hnw (by rw [e]; simp)
      have hnot : ∀ e ∈ oj.after, Region.binds md e = true → e.on ≠ i := fun e he hb heq => by
        have h1 := hall e he hb
        rw [heq, getD_both hun] at h1
        cases h1
      have hzset : (listed.setIfInBounds i true).getD z false = false := by rw [getD_set_ne false hiz]; exact getD_both (hl z (by simp))
      have h2 := wpOpIn_putIf hsem hoj (hfree j oj hoj hji hjun hnot) (fun cs b => hsel i oi cs b hi) (fun cs b => hsel j oj cs b hoj) hQ hy h1
      have hfree' : ∀ k ok, ops[k]? = some ok → k ≠ i → (listed.setIfInBounds j true).getD k true = false →
          (∀ e ∈ ok.after, Region.binds md e = true → e.on ≠ i) → oi.apart ops ok = true := fun k ok hk hki hun hno => by
        refine hfree k ok hk hki ?_ hno
        by_cases hjk : j = k
        · subst hjk; exact hjun
        · rw [getD_set_ne true hjk] at hun; exact hun
      refine wpOpIn_mono (fun a' w' h3 => ⟨fun hjz' _ => h3.2.1 hjz' hzset, ih (listed.setIfInBounds j true) a' w' hfree' (ready_mono hr (Ne.symm hji)) h3.1 (fun p hp => ?_) (h3.2.1 hjz hzset) ?_⟩) h2
      · rw [getD_set_ne true (fun e => hnw (by rw [e]; exact hp))]; exact hl p hp
      · rw [Array.setIfInBounds_comm _ _ hji]
        exact h3.2.2
theorem wpAnyEI_takeP {i : Nat} {oi : Oper} {v : Value} (path : List Nat) (hsem : Plain F ops) {fuel : Nat} {listed : Array Bool} {a : Act} {w : World} (hi : ops[i]? = some oi)
    (hs : Region.noSelect ops = true) (hf : Region.free md ops listed i = true) (hr : (Region.ready md ops listed).contains i = true)
    (hQ : ∀ c a w, Q (.panic c) (a.put oi.dst v) w → Q (.panic c) a w) (hz : ((z :: path).all (fun p => !listed.getD p true) && wayTo md ops z i path && !(i == z)) = true) (hy : YieldsIf P ops S oi v a) (hS : S w)
    (h : wpAnyEI F n P md ops Q S z fuel (listed.setIfInBounds i true) (a.put oi.dst v) w) : wpAnyEI F n P md ops Q S z (fuel + 1) listed a w := by
  simp only [Bool.and_eq_true, Bool.not_eq_true', beq_eq_false_iff_ne, List.all_eq_true] at hz
  exact wpAnyEI_firstP hsem hi (Region.noSelect_spec hs) hQ hz.2 path hz.1.2 fuel listed a w (Region.free_spec hi hf) (by simpa using hr) hy (fun p hp => by simpa using hz.1.1 p hp) hS h
/-- Number i alone can come up, and z has come or comes now: S is not asked any more. -/
theorem wpAnyEI_any {i : Nat} {o : Oper} {fuel : Nat} {listed : Array Bool} {a : Act} {w : World} (hr : Region.ready md ops listed = [i]) (ho : ops[i]? = some o) (hz : (i == z || listed.getD z false) = true)
    (h : ∀ K' : Act → World → Prop, Shut (∀ a w, wpAnyEI F n P md ops Q S z fuel (listed.setIfInBounds i true) a w → K' a w) → if Region.wanted o (yielded ops a.tmps) = true then Oper.wpIn F n P o a w K' Q else (∀ f, o.about P w a.eval = some f → F.fn f) ∧ K' (a.put o.dst undef) w) : wpAnyEI F n P md ops Q S z (fuel + 1) listed a w := by
  refine ⟨fun h0 => (by rw [hr] at h0; cases h0), fun j hj => ?_⟩
  rw [hr] at hj
  have e : j = i := by simpa using hj
  subst e
  refine wpOpIn_step ho (fun K' hK => h K' (fun a w hW => hK a w ⟨fun h1 h2 => ?_, hW⟩))
  rw [Bool.or_eq_true, beq_iff_eq] at hz
  rcases hz with e | e
  · exact absurd e h1
  · rw [h2] at e; cases e
theorem wpAnyEI_nil {fuel : Nat} {listed : Array Bool} {a : Act} {w : World} (hr : Region.ready md ops listed = []) (h : Q .normal a w) : wpAnyEI F n P md ops Q S z fuel listed a w := by
  cases fuel with
  | zero => exact ⟨hr, h⟩
  | succ f => exact ⟨fun _ => h, by rw [hr]; simp⟩
end

end Go.Proofs.YtmooajppfjglaaaGreat

namespace Go.Proofs.YtmooajppfjglaaaGreat
open Go Go.RowKit Go.Shelf

section
variable {F : Fence} {n : Nat} {P : Program} {ops : Array Oper} {rest : List Oper} {o : Oper} {a : Act} {w : World} {Q : Exit → Act → World → Prop}
theorem wpIn_store_row {K : Act → World → Prop} (hF : ∀ f, F.fn f) (ty : TypeId) (x y : Operand) (ho : o.op = .store ty x y)
    (g : Nat) (cells : Array Value) (hx : a.eval x = .pointer (some ⟨g, 0, none⟩)) (hy : a.eval y = .agg cells)
    (t : TypeId) (old : Array Value) (hg : Box w g t old) (hi : (P.info? ty).map (·.size) = some cells.size)
    (hold : old.size = cells.size) (h1 : cells.all (·.oneCell') = true)
    (h : K (a.put o.dst undef) (w.setRow g cells)) : o.wpIn F n P a w K Q := by
  unfold Oper.wpIn
  refine ⟨fun f _ => hF f, ?_⟩
  rw [Oper.semAt_plain F _ _ (by rw [ho]; intro c hc; cases hc)]
  unfold execOp
  simp only [ho, hx, hy, Instr.storeAt, Instr.sureAddr, Sem.run_bind, Sem.run_pure, Result.andThen_ok, run_storeVar_row w g t ty old cells hg hi hold h1]
  exact h
theorem wpListIn_store_row (hF : ∀ f, F.fn f) (hgd : o.guard = none) (ty : TypeId) (x y : Operand) (ho : o.op = .store ty x y)
    (g : Nat) (cells : Array Value) (hx : a.eval x = .pointer (some ⟨g, 0, none⟩)) (hy : a.eval y = .agg cells)
    (t : TypeId) (old : Array Value) (hg : Box w g t old) (hi : (P.info? ty).map (·.size) = some cells.size)
    (hold : old.size = cells.size) (h1 : cells.all (·.oneCell') = true)
    (h : wpListIn F n P ops Q rest (a.put o.dst undef) (w.setRow g cells)) : wpListIn F n P ops Q (o :: rest) a w :=
  wpListIn_plain hgd fun _ hK => wpIn_store_row hF ty x y ho g cells hx hy t old hg hi hold h1 (hK _ _ h)
end

/-- A list of records, its lists named. -/
def RecsV (ds : List RecD) (w : World) (F : Nat → Prop) (A : Option Addr) (n : Nat) (L : Nat → Option Addr) (m mc : Nat → Nat) : Prop :=
  ds.length = n ∧ (0 < n → ∃ b o, A = some ⟨b, o, none⟩ ∧ F b ∧ b < w.heap.size ∧ ∀ i (h : i < ds.length), RecAt w b (o + i * 9) ds[i] (.slice (L i) (m i) (mc i)) ∧ m i ≤ maxLen ∧ PairsF w F (L i) (m i) (ds[i]).ps)
theorem RecsV.turn {T : Nat → Prop} {w w' : World} {F : Nat → Prop} {A : Option Addr} {n : Nat} {ds : List RecD} {L : Nat → Option Addr} {m mc : Nat → Nat} (h : RecsV ds w F A n L m mc) (ht : Turns T w w') (hd : ∀ b, F b → ¬ T b) : RecsV ds w' F A n L m mc := by
  refine ⟨h.1, fun hn => ?_⟩
  obtain ⟨b, o, hA, hF, hb, hc⟩ := h.2 hn
  refine ⟨b, o, hA, hF, Nat.lt_of_lt_of_le hb ht.size, fun i hi => ?_⟩
  obtain ⟨h1, h2, h3⟩ := hc i hi
  exact ⟨h1.turn hb ht (hd b hF), h2, h3.turn ht hd⟩
theorem RecsF.vals {ds : List RecD} {w : World} {F : Nat → Prop} {A : Option Addr} {n : Nat} (h : RecsF ds w F A n) : ∃ L m mc, RecsV ds w F A n L m mc := by
  by_cases hn : 0 < n
  · obtain ⟨b, o, hA, hF, hb, hc⟩ := h.2 hn
    have hc' : ∀ i, ∃ p : Option Addr × Nat × Nat, ∀ hi : i < ds.length, RecAt w b (o + i * 9) ds[i] (.slice p.1 p.2.1 p.2.2) ∧ p.2.1 ≤ maxLen ∧ PairsF w F p.1 p.2.1 (ds[i]).ps := fun i => by
      by_cases hi : i < ds.length
      · obtain ⟨L, m, mc, h1, h2, h3⟩ := hc i hi
        exact ⟨(L, m, mc), fun _ => ⟨h1, h2, h3⟩⟩
      · exact ⟨(none, 0, 0), fun h => absurd h hi⟩
    exact ⟨fun i => (Classical.choose (hc' i)).1, fun i => (Classical.choose (hc' i)).2.1, fun i => (Classical.choose (hc' i)).2.2, h.1, fun _ => ⟨b, o, hA, hF, hb, fun i hi => Classical.choose_spec (hc' i) hi⟩⟩
  · exact ⟨fun _ => none, fun _ => 0, fun _ => 0, h.1, fun h => absurd h hn⟩
/-- A record's cells, its list at this place. -/
def cellsC (d : RecD) (L : Option Addr) (m mc : Nat) : Array Value := #[.int .i64 d.r1, .int .i64 d.r2, .int .i64 d.r3, .int .i64 d.r4, .int .i64 d.r5, .int .i64 d.r6, .int .i64 d.r7, .slice L m mc, .int .i64 d.r8]
/-- The numbers below k, below n. -/
def firsts (n k : Nat) : List (Fin n) := (List.finRange n).take k
theorem firsts_snoc (n k : Nat) (h : k < n) : firsts n (k + 1) = firsts n k ++ [⟨k, h⟩] := by
  unfold firsts
  rw [List.take_succ_eq_append_getElem (by simpa using h)]
  simp
theorem firsts_all (n : Nat) : firsts n n = List.finRange n := by
  unfold firsts
  exact List.take_of_length_le (by simp)
theorem firsts_pre (n k : Nat) : firsts n k <+: List.finRange n := List.take_prefix _ _
theorem firsts_len (n k : Nat) (h : k ≤ n) : (firsts n k).length = k := by
  unfold firsts
  simp only [List.length_take, List.length_finRange]
  omega
/-- New blocks alone. -/
theorem grown_none {a b : World} (h : Below a.heap.size a b) : a.grownBy b none := ⟨h.os, h.tape, h.output, h.size, fun i hi _ => h.block i hi⟩
/-- Whatever abides growth abides new blocks. -/
theorem AbidesFrom.later {β : Type} {B : Nat} {J : β → World → Prop} (h : AbidesFrom B J) {s : β} {w w' : World} (hj : J s w) (hb : Below w.heap.size w w') : J s w' :=
  h s w w' none hj (grown_none hb) (fun r e => by cases e)
/-- What a round keeps: whatever lay below N, and whatever is cells, but for the block G. -/
structure KeepC (G N : Nat) (w w' : World) : Prop where
  os : w'.os = w.os
  tape : w'.tape = w.tape
  output : w'.output = w.output
  size : w.heap.size ≤ w'.heap.size
  block : ∀ i o, w.heap[i]? = some o → i ≠ G → (i < N ∨ o.isCells = true) → w'.heap[i]? = some o
/-- The blocks that may have turned. -/
def TurnC (G N : Nat) (w : World) : Nat → Prop := fun i => i = G ∨ (N ≤ i ∧ ∃ o, w.heap[i]? = some o ∧ o.isCells = false)
theorem KeepC.turns {G N : Nat} {w w' : World} (h : KeepC G N w w') : Turns (TurnC G N w) w w' := ⟨h.os, h.tape, h.output, h.size, fun i hi hT => by
  have e : w.heap[i]? = some w.heap[i] := Array.getElem?_eq_getElem hi
  rw [e]
  refine h.block i _ e (fun hG => hT (.inl hG)) ?_
  by_cases hN : i < N
  · exact .inl hN
  · refine .inr ?_
    rcases hc : (w.heap[i]).isCells with _ | _
    · exact absurd (.inr ⟨by omega, _, e, hc⟩) hT
    · rfl⟩
theorem KeepC.trans {G N : Nat} {a b c : World} (h : KeepC G N a b) (k : KeepC G N b c) : KeepC G N a c :=
  ⟨k.os.trans h.os, k.tape.trans h.tape, k.output.trans h.output, Nat.le_trans h.size k.size, fun i o hi hG hN => k.block i o (h.block i o hi hG hN) hG hN⟩
theorem KeepC.of_below {G N : Nat} {a b : World} (h : Below a.heap.size a b) : KeepC G N a b :=
  ⟨h.os, h.tape, h.output, h.size, fun i _ hi _ _ => (h.block i (Array.getElem?_eq_some_iff.1 hi).1).trans hi⟩
theorem KeepC.of_turns {G N : Nat} {T : Nat → Prop} {a b : World} (h : Turns T a b) (hT : ∀ i, T i → i = G) : KeepC G N a b :=
  ⟨h.os, h.tape, h.output, h.size, fun i _ hi hG _ => (h.block i (Array.getElem?_eq_some_iff.1 hi).1 (fun ht => hG (hT i ht))).trans hi⟩
theorem KeepC.refl {G N : Nat} (w : World) : KeepC G N w w := KeepC.of_below (Below.refl _ _)
theorem keepC_put {G N : Nat} (W : World) (l : Nat) (o o' : Obj) (hl : N ≤ l) (h : W.heap[l]? = some o) (hc : o.isCells = false) : KeepC G N W (W.putObj l o') :=
  ⟨rfl, rfl, rfl, by simp [World.putObj], fun i x hi _ hx => by
    have hne : i ≠ l := fun e => by
      subst e
      rw [h] at hi
      injection hi with hi
      subst hi
      rcases hx with hx | hx
      · omega
      · rw [hc] at hx; cases hx
    exact (World.putObj_heap_other hne).trans hi⟩
theorem notC_box {G N : Nat} {w : World} {g : Nat} {t : TypeId} {cs : Array Value} (hx : Box w g t cs) (hg : g ≠ G) : ¬ TurnC G N w g := fun h => by
  rcases h with h | ⟨_, o, ho, hc⟩
  · exact hg h
  · rw [show w.heap[g]? = some (.cells cs t (0, 0)) from hx] at ho
    injection ho with ho
    subst ho
    cases hc
theorem notC_low {G N : Nat} {w : World} {b : Nat} (hb : b < N) (hg : b ≠ G) : ¬ TurnC G N w b := fun h => by
  rcases h with h | ⟨h, _⟩
  · exact hg h
  · omega
theorem Box.keepC {G N : Nat} {w w' : World} {g : Nat} {t : TypeId} {cs : Array Value} (hx : Box w g t cs) (h : KeepC G N w w') (hg : g ≠ G) : Box w' g t cs := hx.turn h.turns (notC_box hx hg)
end Go.Proofs.YtmooajppfjglaaaGreat
