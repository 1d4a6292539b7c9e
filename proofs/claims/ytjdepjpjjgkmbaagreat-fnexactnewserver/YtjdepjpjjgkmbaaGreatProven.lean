/- CertOk and ProvenOk, and their models: contracts of each of them; up to some four million seals. -/
import Derived.Test.YtjdepjpjjgkmbaaGreatCert2
import Derived.Test.YtjdepjpjjgkmbaaGreatSpecCert
import Derived.Test.YtjdepjpjjgkmbaaGreatNoteShape
import Derived.Deep.CutBlock
namespace Go.Proofs.YtjdepjpjjgkmbaaGreat
open Go.RowKit

set_option maxRecDepth 100000 in
set_option maxHeartbeats 2000000 in
theorem certOk_is (s l c sh : Int) (A : Option Addr) (n cap : Nat) (zs : List Int) (ck ch ct cq cv : Int) (P : Option Addr) (m pcap : Nat) (ps : List (Int × Int)) (w : World) (hm : n ≤ maxLen) (hr : Row w w.heap.size A n zs) (hn : m ≤ 4194304) (h : Pairs w w.heap.size P m ps) :
    Calls Tryz.prog 234 #[.agg #[.int .i64 s, .int .i64 l, .int .i64 c, .int .i64 sh, .slice A n cap], .agg #[.int .i64 ck, .int .i64 ch, .int .i64 ct, .int .i64 cq, .int .i64 cv], .slice P m pcap] w fun e w' => e = .returned (.bool (cerB s l c sh zs ck ch ct cq cv ps)) ∧ Below w.heap.size w w' := by
  have E0 := bel_trans (bel_alloc w (.cells #[.int .i64 s, .int .i64 l, .int .i64 c, .int .i64 sh, .slice A n cap] 26)) (bel_alloc _ (.cells #[.int .i64 ck, .int .i64 ch, .int .i64 ct, .int .i64 cq, .int .i64 cv] 180))
  have DG := (Box.new w 26 #[.int .i64 s, .int .i64 l, .int .i64 c, .int .i64 sh, .slice A n cap]).alloc (.cells #[.int .i64 ck, .int .i64 ch, .int .i64 ct, .int .i64 cq, .int .i64 cv] 180)
  have DC := Box.new (w.alloc (.cells #[.int .i64 s, .int .i64 l, .int .i64 c, .int .i64 sh, .slice A n cap] 26)) 180 #[.int .i64 ck, .int .i64 ch, .int .i64 ct, .int .i64 cq, .int .i64 cv]
  simp only [World.size_alloc] at DC
  have HR := Lib.hid ((hr.below E0 (Nat.le_refl _)).more E0.size)
  have HM := Lib.hid hm
  have HP := Lib.hid (h.later E0)
  have hl := Lib.hid h.1
  have hN := Lib.hid hn
  clear h hr hm
  have hcer : Hid (cerB s l c sh zs ck ch ct cq cv ps = (okB s l c sh zs && decide ((m : Int) ≤ 20) && decide (quoN s l c sh zs ≤ cntN s l c sh zs ck ch ct cq cv ps))) := by
    unfold cerB
    rw [hl.out]
    exact rfl
  go_enter Tryz.func234, Tryz.ntmps234
  go_wp2_with fail
  generalize ((w.alloc _).alloc _ : World) = w1 at E0 DG DC HR HP ⊢
  obtain ⟨f0, f1, f2, f3, f4⟩ := fiveAfter DG
  obtain ⟨f5, f6, f7, f8, f9⟩ := fiveAfter DC
  rcases hok : okB s l c sh zs with _ | _
  · have HO := Lib.hid hok
    clear hok
    refine wp_region_after (by kernel_rfl) (by kernel_rfl) ?_
    repeat (first | go_big_quiet_step ((go_at_call 175; exact after_of (groupB_is HO.out _ n cap _ HM.out (rowAfter HR.out _)))) | quiet_step ((go_at_call 175; exact after_of (groupB_is HO.out _ n cap _ HM.out (rowAfter HR.out _)))))
    refine wpQuiet_nil ?_
    intro pw
    go_wp2
    go_ret
    exact ⟨by rw [hcer.out, HO.out]; rfl, bel_trans E0 pw.bel⟩
  · have HO := Lib.hid hok
    clear hok
    by_cases h20 : m ≤ 20
    · have h20' : (m : Int) ≤ 20 := by omega
      refine wp_region_after (by kernel_rfl) (by kernel_rfl) ?_
      repeat (first | go_big_quiet_step (first
        | (go_at_call 175; exact after_of (groupB_is HO.out _ n cap _ HM.out (rowAfter HR.out _)))
        | (go_at_call 242; exact after_of (count_is s l c sh _ n cap zs ck ch ct cq cv _ m pcap ps _ HM.out (rowAfter HR.out _) hN.out (pairsAfter HP.out _)))
        | (go_at_call 243; exact after_of (quorum_any s l c sh _ n cap zs _ HM.out (rowAfter HR.out _)))) | quiet_step (first
        | (go_at_call 175; exact after_of (groupB_is HO.out _ n cap _ HM.out (rowAfter HR.out _)))
        | (go_at_call 242; exact after_of (count_is s l c sh _ n cap zs ck ch ct cq cv _ m pcap ps _ HM.out (rowAfter HR.out _) hN.out (pairsAfter HP.out _)))
        | (go_at_call 243; exact after_of (quorum_any s l c sh _ n cap zs _ HM.out (rowAfter HR.out _)))))
      refine wpQuiet_nil ?_
      intro pw
      go_wp2
      go_ret
      exact ⟨by rw [hcer.out, HO.out]; simp [h20'], bel_trans E0 pw.bel⟩
    · have h20' : ¬ (m : Int) ≤ 20 := by omega
      have h20d := Lib.hid (show decide ((m : Int) ≤ 20) = false by simpa using h20')
      refine wp_region_after (by kernel_rfl) (by kernel_rfl) ?_
      repeat (first | go_big_quiet_step ((go_at_call 175; exact after_of (groupB_is HO.out _ n cap _ HM.out (rowAfter HR.out _)))) | quiet_step ((go_at_call 175; exact after_of (groupB_is HO.out _ n cap _ HM.out (rowAfter HR.out _)))))
      refine wpQuiet_nil ?_
      intro pw
      go_wp2
      go_ret
      exact ⟨by rw [hcer.out, HO.out, h20d.out]; rfl, bel_trans E0 pw.bel⟩

set_option maxRecDepth 100000 in
set_option maxHeartbeats 2000000 in
theorem specCertOk_is (s l c sh : Int) (A : Option Addr) (n cap : Nat) (zs : List Int) (ck ch ct cq cv : Int) (P : Option Addr) (m pcap : Nat) (ps : List (Int × Int)) (w : World) (hm : n ≤ maxLen) (hr : Row w w.heap.size A n zs) (hn : m ≤ 4194304) (h : Pairs w w.heap.size P m ps) :
    Calls Tryz.prog 199 #[.agg #[.int .i64 s, .int .i64 l, .int .i64 c, .int .i64 sh, .slice A n cap], .agg #[.int .i64 ck, .int .i64 ch, .int .i64 ct, .int .i64 cq, .int .i64 cv], .slice P m pcap] w fun e w' => e = .returned (.bool (cerB s l c sh zs ck ch ct cq cv ps)) ∧ Below w.heap.size w w' := by
  have E0 := bel_trans (bel_alloc w (.cells #[.int .i64 s, .int .i64 l, .int .i64 c, .int .i64 sh, .slice A n cap] 26)) (bel_alloc _ (.cells #[.int .i64 ck, .int .i64 ch, .int .i64 ct, .int .i64 cq, .int .i64 cv] 180))
  have DG := (Box.new w 26 #[.int .i64 s, .int .i64 l, .int .i64 c, .int .i64 sh, .slice A n cap]).alloc (.cells #[.int .i64 ck, .int .i64 ch, .int .i64 ct, .int .i64 cq, .int .i64 cv] 180)
  have DC := Box.new (w.alloc (.cells #[.int .i64 s, .int .i64 l, .int .i64 c, .int .i64 sh, .slice A n cap] 26)) 180 #[.int .i64 ck, .int .i64 ch, .int .i64 ct, .int .i64 cq, .int .i64 cv]
  simp only [World.size_alloc] at DC
  have HR := Lib.hid ((hr.below E0 (Nat.le_refl _)).more E0.size)
  have HM := Lib.hid hm
  have HP := Lib.hid (h.later E0)
  have hl := Lib.hid h.1
  have hN := Lib.hid hn
  clear h hr hm
  have hcer : Hid (cerB s l c sh zs ck ch ct cq cv ps = (okB s l c sh zs && decide ((m : Int) ≤ 20) && decide (quoN s l c sh zs ≤ cntN s l c sh zs ck ch ct cq cv ps))) := by
    unfold cerB
    rw [hl.out]
    exact rfl
  go_enter Tryz.func199, Tryz.ntmps199
  go_wp2_with fail
  generalize ((w.alloc _).alloc _ : World) = w1 at E0 DG DC HR HP ⊢
  obtain ⟨f0, f1, f2, f3, f4⟩ := fiveAfter DG
  obtain ⟨f5, f6, f7, f8, f9⟩ := fiveAfter DC
  rcases hok : okB s l c sh zs with _ | _
  · have HO := Lib.hid hok
    clear hok
    refine wp_region_after (by kernel_rfl) (by kernel_rfl) ?_
    repeat (first | go_big_quiet_step ((go_at_call 133; exact after_of (specGroupB_is HO.out _ n cap _ HM.out (rowAfter HR.out _)))) | quiet_step ((go_at_call 133; exact after_of (specGroupB_is HO.out _ n cap _ HM.out (rowAfter HR.out _)))))
    refine wpQuiet_nil ?_
    intro pw
    go_wp2
    go_ret
    exact ⟨by rw [hcer.out, HO.out]; rfl, bel_trans E0 pw.bel⟩
  · have HO := Lib.hid hok
    clear hok
    by_cases h20 : m ≤ 20
    · have h20' : (m : Int) ≤ 20 := by omega
      refine wp_region_after (by kernel_rfl) (by kernel_rfl) ?_
      repeat (first | go_big_quiet_step (first
        | (go_at_call 133; exact after_of (specGroupB_is HO.out _ n cap _ HM.out (rowAfter HR.out _)))
        | (go_at_call 228; exact after_of (specCount_is s l c sh _ n cap zs ck ch ct cq cv _ m pcap ps _ HM.out (rowAfter HR.out _) hN.out (pairsAfter HP.out _)))
        | (go_at_call 183; exact after_of (specQuorum_any s l c sh _ n cap zs _ HM.out (rowAfter HR.out _)))) | quiet_step (first
        | (go_at_call 133; exact after_of (specGroupB_is HO.out _ n cap _ HM.out (rowAfter HR.out _)))
        | (go_at_call 228; exact after_of (specCount_is s l c sh _ n cap zs ck ch ct cq cv _ m pcap ps _ HM.out (rowAfter HR.out _) hN.out (pairsAfter HP.out _)))
        | (go_at_call 183; exact after_of (specQuorum_any s l c sh _ n cap zs _ HM.out (rowAfter HR.out _)))))
      refine wpQuiet_nil ?_
      intro pw
      go_wp2
      go_ret
      exact ⟨by rw [hcer.out, HO.out]; simp [h20'], bel_trans E0 pw.bel⟩
    · have h20' : ¬ (m : Int) ≤ 20 := by omega
      have h20d := Lib.hid (show decide ((m : Int) ≤ 20) = false by simpa using h20')
      refine wp_region_after (by kernel_rfl) (by kernel_rfl) ?_
      repeat (first | go_big_quiet_step ((go_at_call 133; exact after_of (specGroupB_is HO.out _ n cap _ HM.out (rowAfter HR.out _)))) | quiet_step ((go_at_call 133; exact after_of (specGroupB_is HO.out _ n cap _ HM.out (rowAfter HR.out _)))))
      refine wpQuiet_nil ?_
      intro pw
      go_wp2
      go_ret
      exact ⟨by rw [hcer.out, HO.out, h20d.out]; rfl, bel_trans E0 pw.bel⟩


theorem certB_is {s l c sh : Int} {zs : List Int} {ck ch ct cq cv : Int} {ps : List (Int × Int)} {b : Bool} (hb : cerB s l c sh zs ck ch ct cq cv ps = b) (A : Option Addr) (n cap : Nat) (P : Option Addr) (m pcap : Nat) (w : World) (hm : n ≤ maxLen) (hr : Row w w.heap.size A n zs) (hn : m ≤ 4194304) (h : Pairs w w.heap.size P m ps) :
    Calls Tryz.prog 234 #[.agg #[.int .i64 s, .int .i64 l, .int .i64 c, .int .i64 sh, .slice A n cap], .agg #[.int .i64 ck, .int .i64 ch, .int .i64 ct, .int .i64 cq, .int .i64 cv], .slice P m pcap] w fun e w' => e = .returned (.bool b) ∧ Below w.heap.size w w' := hb ▸ certOk_is s l c sh A n cap zs ck ch ct cq cv P m pcap ps w hm hr hn h
theorem specCertB_is {s l c sh : Int} {zs : List Int} {ck ch ct cq cv : Int} {ps : List (Int × Int)} {b : Bool} (hb : cerB s l c sh zs ck ch ct cq cv ps = b) (A : Option Addr) (n cap : Nat) (P : Option Addr) (m pcap : Nat) (w : World) (hm : n ≤ maxLen) (hr : Row w w.heap.size A n zs) (hn : m ≤ 4194304) (h : Pairs w w.heap.size P m ps) :
    Calls Tryz.prog 199 #[.agg #[.int .i64 s, .int .i64 l, .int .i64 c, .int .i64 sh, .slice A n cap], .agg #[.int .i64 ck, .int .i64 ch, .int .i64 ct, .int .i64 cq, .int .i64 cv], .slice P m pcap] w fun e w' => e = .returned (.bool b) ∧ Below w.heap.size w w' := hb ▸ specCertOk_is s l c sh A n cap zs ck ch ct cq cv P m pcap ps w hm hr hn h

end Go.Proofs.YtjdepjpjjgkmbaaGreat

/- ProvenOk and its model: contracts of each of them; up to some four million seals. -/
namespace Go.Proofs.YtjdepjpjjgkmbaaGreat
open Go.RowKit

theorem proB_eq (s l c sh : Int) (zs : List Int) (x ct cq v : Int) (ps : List (Int × Int)) : proB s l c sh zs x ct cq v ps = (shfB s l c sh zs x && (nilB ct cq v || cerB s l c sh zs 1 x ct cq v ps)) := rfl

set_option maxRecDepth 100000 in
set_option maxHeartbeats 2000000 in
theorem proven_is (s l c sh : Int) (A : Option Addr) (n cap : Nat) (zs : List Int) (x ct cq v : Int) (P : Option Addr) (m pcap : Nat) (ps : List (Int × Int)) (w : World) (hm : n ≤ maxLen) (hr : Row w w.heap.size A n zs) (hn : m ≤ 4194304) (h : Pairs w w.heap.size P m ps) :
    Calls Tryz.prog 209 #[.agg #[.int .i64 s, .int .i64 l, .int .i64 c, .int .i64 sh, .slice A n cap], .int .i64 x, .agg #[.int .i64 ct, .int .i64 cq], .int .i64 v, .slice P m pcap] w fun e w' => e = .returned (.bool (proB s l c sh zs x ct cq v ps)) ∧ Below w.heap.size w w' := by
  rw [proB_eq]
  have E0 := bel_trans (bel_alloc w (.cells #[.int .i64 s, .int .i64 l, .int .i64 c, .int .i64 sh, .slice A n cap] 26)) (bel_alloc _ (.cells #[.int .i64 ct, .int .i64 cq] 39))
  have DG := (Box.new w 26 #[.int .i64 s, .int .i64 l, .int .i64 c, .int .i64 sh, .slice A n cap]).alloc (.cells #[.int .i64 ct, .int .i64 cq] 39)
  have DT := Box.new (w.alloc (.cells #[.int .i64 s, .int .i64 l, .int .i64 c, .int .i64 sh, .slice A n cap] 26)) 39 #[.int .i64 ct, .int .i64 cq]
  simp only [World.size_alloc] at DT
  have HR := Lib.hid ((hr.below E0 (Nat.le_refl _)).more E0.size)
  have HM := Lib.hid hm
  have HP := Lib.hid (h.later E0)
  have hN := Lib.hid hn
  clear h hr hm
  obtain ⟨d0, d1, d2, d3, d4⟩ := DG.five
  go_enter Tryz.func209, Tryz.ntmps209
  go_wp2_with fail
  generalize ((w.alloc _).alloc _ : World) = w1 at E0 DG DT HR HP d0 d1 d2 d3 d4 ⊢
  rcases hsf : shfB s l c sh zs x with _ | _
  · have HO := Lib.hid hsf
    clear hsf
    refine (isShelfB_is HO.out A n cap w1 HM.out HR.out).mono ?_
    rintro e w2 ⟨rfl, hb2⟩
    have E2 := bel_trans E0 hb2
    go_wp2
    go_ret
    exact ⟨by first | rfl | (rw [HO.out]; rfl), E2⟩
  · have HO := Lib.hid hsf
    clear hsf
    refine (isShelfB_is HO.out A n cap w1 HM.out HR.out).mono ?_
    rintro e w2 ⟨rfl, hb2⟩
    have E2 := bel_trans E0 hb2
    have DG2 := DG.later hb2 DG.lt
    have DT2 := DT.later hb2 DT.lt
    have HR2 := Lib.hid ((HR.out.below hb2 (Nat.le_refl _)).more hb2.size)
    have HP2 := Lib.hid (HP.out.later hb2)
    clear d0 d1 d2 d3 d4 DG DT HR HP hb2 E0
    obtain ⟨d0, d1, d2, d3, d4⟩ := DG2.five
    obtain ⟨t0, t1⟩ := DT2.two
    rcases hc : cerB s l c sh zs 1 x ct cq v ps with _ | _
    all_goals (
      have HC := Lib.hid hc
      clear hc
      rcases nil_cases ct cq v with ⟨rfl, rfl, rfl, hnil⟩ | ⟨hnil, hcase⟩
      · have HNL := Lib.hid hnil
        clear hnil
        go_wp2
        go_ret
        exact ⟨by first | rfl | (rw [HNL.out]; rfl) | (rw [HO.out, HNL.out]; rfl), E2⟩
      · have HNL := Lib.hid hnil
        clear hnil
        rcases hcase with h1 | ⟨h1, h2⟩ | ⟨rfl, rfl, h2⟩
        all_goals (
          go_wp2_with fail
          refine (certB_is HC.out A n cap P m pcap w2 HM.out HR2.out hN.out HP2.out).mono ?_
          rintro e w3 ⟨rfl, hb3⟩
          have E3 := bel_trans E2 hb3
          go_wp2
          go_ret
          exact ⟨by first | rfl | (rw [HNL.out]; rfl) | (rw [HO.out, HNL.out]; rfl) | (rw [HNL.out, HC.out]; rfl) | (rw [HO.out, HNL.out, HC.out]; rfl), E3⟩))

end Go.Proofs.YtjdepjpjjgkmbaaGreat
