/- The model's ProvenOk: its contract; up to some four million seals. -/
import Derived.Test.YtjdepjpjjgkmbaaGreatProven
namespace Go.Proofs.YtjdepjpjjgkmbaaGreat
open Go.RowKit

set_option maxRecDepth 100000 in
set_option maxHeartbeats 2000000 in
theorem specProven_is (s l c sh : Int) (A : Option Addr) (n cap : Nat) (zs : List Int) (x ct cq v : Int) (P : Option Addr) (m pcap : Nat) (ps : List (Int × Int)) (w : World) (hm : n ≤ maxLen) (hr : Row w w.heap.size A n zs) (hn : m ≤ 4194304) (h : Pairs w w.heap.size P m ps) :
    Calls Tryz.prog 152 #[.agg #[.int .i64 s, .int .i64 l, .int .i64 c, .int .i64 sh, .slice A n cap], .int .i64 x, .agg #[.int .i64 ct, .int .i64 cq], .int .i64 v, .slice P m pcap] w fun e w' => e = .returned (.bool (proB s l c sh zs x ct cq v ps)) ∧ Below w.heap.size w w' := by
  rw [proB_eq]
  have E0 := bel_trans (bel_alloc w (.cells #[.int .i64 s, .int .i64 l, .int .i64 c, .int .i64 sh, .slice A n cap] 26)) (bel_alloc _ (.cells #[.int .i64 ct, .int .i64 cq] 39))
  have DG := (Box.new w 26 #[.int .i64 s, .int .i64 l, .int .i64 c, .int .i64 sh, .slice A n cap]).alloc (.cells #[.int .i64 ct, .int .i64 cq] 39)
  have DT := Box.new (w.alloc (.cells #[.int .i64 s, .int .i64 l, .int .i64 c, .int .i64 sh, .slice A n cap] 26)) 39 #[.int .i64 ct, .int .i64 cq]
  simp only [World.size_alloc] at DT
  have HR := Lib.hid ((hr.below E0 (Nat.le_refl _)).more E0.size)
  have HM := Lib.hid hm
  have HP := Lib.hid (h.later E0)
  have hN := Lib.hid hn
  clear h hr hm
  obtain ⟨d0, d1, d2, d3, d4⟩ := DG.five
  go_enter Tryz.func152, Tryz.ntmps152
  go_wp2_with fail
  generalize ((w.alloc _).alloc _ : World) = w1 at E0 DG DT HR HP d0 d1 d2 d3 d4 ⊢
  rcases hok : okB s l c sh zs with _ | _
  · have hs := Lib.hid (show shfB s l c sh zs x = false by simp [shfB, hok])
    have HO := Lib.hid hok
    clear hok
    refine (specGroupB_is HO.out A n cap w1 HM.out HR.out).mono ?_
    rintro e w2 ⟨rfl, hb2⟩
    have E2 := bel_trans E0 hb2
    go_wp2
    go_ret
    exact ⟨by rw [hs.out]; rfl, E2⟩
  · have hsh := okB_sh hok
    have hs := Lib.hid (show shfB s l c sh zs x = inB x 0 (sh - 1) by simp [shfB, hok])
    have HO := Lib.hid hok
    clear hok
    refine (specGroupB_is HO.out A n cap w1 HM.out HR.out).mono ?_
    rintro e w2 ⟨rfl, hb2⟩
    have E2 := bel_trans E0 hb2
    have DG2 := DG.later hb2 DG.lt
    have DT2 := DT.later hb2 DT.lt
    have HR2 := Lib.hid ((HR.out.below hb2 (Nat.le_refl _)).more hb2.size)
    have HP2 := Lib.hid (HP.out.later hb2)
    clear d0 d1 d2 d3 d4 DG DT HR HP hb2 E0
    obtain ⟨d0, d1, d2, d3, d4⟩ := DG2.five
    obtain ⟨f0, f1, f2, f3, f4⟩ := fiveAfter DG2
    obtain ⟨t0, t1⟩ := DT2.two
    have f5 := After.cell (by exact DT2.lt) t0
    have f6 := After.cell (by exact DT2.lt) t1
    rcases hin : inB x 0 (sh - 1) with _ | _
    · have HI := Lib.hid hin
      go_wp2_with (go_at_call 174; refine (l1In_any _ _ _ _).mono ?_; rintro e w' ⟨rfl, rfl⟩)
      go_ret
      exact ⟨by rw [hs.out, HI.out]; rfl, E2⟩
    · have HI := Lib.hid hin
      rcases hc : cerB s l c sh zs 1 x ct cq v ps with _ | _
      all_goals (
        have HC := Lib.hid hc
        clear hc
        rcases nil_cases ct cq v with ⟨rfl, rfl, rfl, hnil⟩ | ⟨hnil, hcase⟩
        · have HNL := Lib.hid hnil
          clear hnil
          go_wp2_with (go_at_call 174; refine (l1In_any _ _ _ _).mono ?_; rintro e w' ⟨rfl, rfl⟩)
          refine wp_region_after (by kernel_rfl) (by kernel_rfl) ?_
          repeat (first | go_big_quiet_step ((go_at_call 161; exact after_of (l4Zero_yes _))) | quiet_step ((go_at_call 161; exact after_of (l4Zero_yes _))))
          refine wpQuiet_nil ?_
          intro pw
          go_wp2
          go_ret
          exact ⟨by rw [hs.out, HI.out, HNL.out]; rfl, bel_trans E2 pw.bel⟩
        · have HNL := Lib.hid hnil
          clear hnil
          rcases hcase with h1 | ⟨h1, h2⟩ | ⟨rfl, rfl, h2⟩
          · go_wp2_with (go_at_call 174; refine (l1In_any _ _ _ _).mono ?_; rintro e w' ⟨rfl, rfl⟩)
            refine wp_region_after (by kernel_rfl) (by kernel_rfl) ?_
            repeat (first | go_big_quiet_step (first | (go_at_call 161; exact after_of (l4Zero_no ct cq (.inl h1) _)) | (go_at_call 137; exact after_of (l4Ready_is x ct cq v _)) | (go_at_call 199; exact after_of (specCertB_is HC.out _ n cap _ m pcap _ HM.out (rowAfter HR2.out _) hN.out (pairsAfter HP2.out _)))) | quiet_step (first | (go_at_call 161; exact after_of (l4Zero_no ct cq (.inl h1) _)) | (go_at_call 137; exact after_of (l4Ready_is x ct cq v _)) | (go_at_call 199; exact after_of (specCertB_is HC.out _ n cap _ m pcap _ HM.out (rowAfter HR2.out _) hN.out (pairsAfter HP2.out _)))))
            refine wpQuiet_nil ?_
            intro pw
            go_wp2
            go_ret
            exact ⟨by rw [hs.out, HI.out, HNL.out, HC.out]; rfl, bel_trans E2 pw.bel⟩
          · go_wp2_with (go_at_call 174; refine (l1In_any _ _ _ _).mono ?_; rintro e w' ⟨rfl, rfl⟩)
            refine wp_region_after (by kernel_rfl) (by kernel_rfl) ?_
            repeat (first | go_big_quiet_step (first | (go_at_call 161; exact after_of (l4Zero_no ct cq (.inr ⟨h1, h2⟩) _)) | (go_at_call 137; exact after_of (l4Ready_is x ct cq v _)) | (go_at_call 199; exact after_of (specCertB_is HC.out _ n cap _ m pcap _ HM.out (rowAfter HR2.out _) hN.out (pairsAfter HP2.out _)))) | quiet_step (first | (go_at_call 161; exact after_of (l4Zero_no ct cq (.inr ⟨h1, h2⟩) _)) | (go_at_call 137; exact after_of (l4Ready_is x ct cq v _)) | (go_at_call 199; exact after_of (specCertB_is HC.out _ n cap _ m pcap _ HM.out (rowAfter HR2.out _) hN.out (pairsAfter HP2.out _)))))
            refine wpQuiet_nil ?_
            intro pw
            go_wp2
            go_ret
            exact ⟨by rw [hs.out, HI.out, HNL.out, HC.out]; rfl, bel_trans E2 pw.bel⟩
          · go_wp2_with (go_at_call 174; refine (l1In_any _ _ _ _).mono ?_; rintro e w' ⟨rfl, rfl⟩)
            refine wp_region_after (by kernel_rfl) (by kernel_rfl) ?_
            repeat (first | go_big_quiet_step (first | (go_at_call 161; exact after_of (l4Zero_yes _)) | (go_at_call 137; exact after_of (l4Ready_is x 0 0 v _)) | (go_at_call 199; exact after_of (specCertB_is HC.out _ n cap _ m pcap _ HM.out (rowAfter HR2.out _) hN.out (pairsAfter HP2.out _)))) | quiet_step (first | (go_at_call 161; exact after_of (l4Zero_yes _)) | (go_at_call 137; exact after_of (l4Ready_is x 0 0 v _)) | (go_at_call 199; exact after_of (specCertB_is HC.out _ n cap _ m pcap _ HM.out (rowAfter HR2.out _) hN.out (pairsAfter HP2.out _)))))
            refine wpQuiet_nil ?_
            intro pw
            go_wp2
            go_ret
            exact ⟨by rw [hs.out, HI.out, HNL.out, HC.out]; rfl, bel_trans E2 pw.bel⟩)

end Go.Proofs.YtjdepjpjjgkmbaaGreat
