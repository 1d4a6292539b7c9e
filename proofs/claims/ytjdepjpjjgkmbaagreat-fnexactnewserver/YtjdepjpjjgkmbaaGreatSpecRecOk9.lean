/- RecOk of the model at every group and record; conditions: the lists' sizes are such as memory holds. -/
import Derived.Test.YtjdepjpjjgkmbaaGreatRecOk9
import Derived.Test.YtjdepjpjjgkmbaaGreatSpecReg3
import Derived.Test.YtjdepjpjjgkmbaaGreatSpecSum9
namespace Go.Proofs.YtjdepjpjjgkmbaaGreat
open Go Go.RowKit

theorem l1InR_is {x lo hi : Int} {b : Bool} (h : inB x lo hi = b) (w : World) : Calls Tryz.prog 174 #[.int .i64 x, .int .i64 lo, .int .i64 hi] w fun e w' => e = .returned (.bool b) ∧ w = w' := h ▸ l1In_any x lo hi w
theorem specOkR_is {s l c sh : Int} {zs : List Int} {b : Bool} (h : okB s l c sh zs = b) (A : Option Addr) (n cap : Nat) (w : World) (hm : n ≤ maxLen) (hr : Row w w.heap.size A n zs) :
    Calls Tryz.prog 133 #[.agg #[.int .i64 s, .int .i64 l, .int .i64 c, .int .i64 sh, .slice A n cap]] w fun e w' => e = .returned (.bool b) ∧ Below w.heap.size w w' := h ▸ specGroup_any s l c sh A n cap zs w hm hr
theorem specSumOfB_is {r1 r2 r3 r4 r5 r6 r7 : Int} {ps : List (Int × Int)} {z : Int} (hz : sumN r1 r2 r3 r4 r5 r6 r7 ps = z) (L : Option Addr) (m mc : Nat) (r8 : Int) (w : World) (hm : m ≤ 4194304) (hr : Pairs w w.heap.size L m ps) :
    Calls Tryz.prog 141 #[.agg #[.int .i64 r1, .int .i64 r2, .int .i64 r3, .int .i64 r4, .int .i64 r5, .int .i64 r6, .int .i64 r7, .slice L m mc, .int .i64 r8]] w fun e w' => e = .returned (.int .i64 z) ∧ Below w.heap.size w w' := hz ▸ specSumOf_is r1 r2 r3 r4 r5 r6 r7 L m mc r8 ps w hm hr
theorem l7ProvenB_is {s l c sh : Int} {zs : List Int} {x ct cq v : Int} {ps : List (Int × Int)} {b : Bool} (hb : lefB s l c sh zs x ct cq v ps = b) (A : Option Addr) (n cap : Nat) (P : Option Addr) (m pcap : Nat) (w : World) (hm : n ≤ maxLen) (hr : Row w w.heap.size A n zs) (hn : m ≤ 4194304) (h : Pairs w w.heap.size P m ps) :
    Calls Tryz.prog 181 #[.agg #[.int .i64 s, .int .i64 l, .int .i64 c, .int .i64 sh, .slice A n cap], .int .i64 x, .agg #[.int .i64 ct, .int .i64 cq], .int .i64 v, .slice P m pcap] w fun e w' => e = .returned (.bool b) ∧ Below w.heap.size w w' := hb ▸ l7Proven_is s l c sh A n cap zs x ct cq v P m pcap ps w hm hr hn h

set_option maxRecDepth 100000 in
set_option maxHeartbeats 4000000 in
theorem specRecOk_is {s l c sh : Int} {zs : List Int} {r1 r2 r3 r4 r5 r6 r7 r8 : Int} {ps : List (Int × Int)} {b : Bool} (hb : rokB s l c sh zs r1 r2 r3 r4 r5 r6 r7 ps r8 = b) (A : Option Addr) (n cap : Nat) (L : Option Addr) (m mc : Nat) (w : World) (hn : n ≤ maxLen) (hr : Row w w.heap.size A n zs) (hm : m ≤ 4194304) (hp : Pairs w w.heap.size L m ps) :
    Calls Tryz.prog 134 #[.agg #[.int .i64 s, .int .i64 l, .int .i64 c, .int .i64 sh, .slice A n cap], .agg #[.int .i64 r1, .int .i64 r2, .int .i64 r3, .int .i64 r4, .int .i64 r5, .int .i64 r6, .int .i64 r7, .slice L m mc, .int .i64 r8]] w fun e w' => e = .returned (.bool b) ∧ Below w.heap.size w w' := by
  have G := (Box.new w 26 #[.int .i64 s, .int .i64 l, .int .i64 c, .int .i64 sh, .slice A n cap]).alloc (.cells #[.int .i64 r1, .int .i64 r2, .int .i64 r3, .int .i64 r4, .int .i64 r5, .int .i64 r6, .int .i64 r7, .slice L m mc, .int .i64 r8] 46)
  have D := Box.new (w.alloc (.cells #[.int .i64 s, .int .i64 l, .int .i64 c, .int .i64 sh, .slice A n cap] 26)) 46 #[.int .i64 r1, .int .i64 r2, .int .i64 r3, .int .i64 r4, .int .i64 r5, .int .i64 r6, .int .i64 r7, .slice L m mc, .int .i64 r8]
  have E := bel_trans (bel_alloc w (.cells #[.int .i64 s, .int .i64 l, .int .i64 c, .int .i64 sh, .slice A n cap] 26)) (bel_alloc _ (.cells #[.int .i64 r1, .int .i64 r2, .int .i64 r3, .int .i64 r4, .int .i64 r5, .int .i64 r6, .int .i64 r7, .slice L m mc, .int .i64 r8] 46))
  simp only [World.size_alloc] at D
  have HR := Lib.hid ((hr.below E (Nat.le_refl _)).more E.size)
  have HP := Lib.hid (hp.later E)
  have HL := Lib.hid hp.1
  have HM := Lib.hid hn
  have HB := Lib.hid hb
  clear hr hn hp hb
  go_enter Tryz.func134, Tryz.ntmps134
  go_upto_region 1 with fail
  generalize ((w.alloc _).alloc _ : World) = w0 at D G E HR HP ⊢
  obtain ⟨f0, f1, f2, f3, f4, f5, f6, f7, f8⟩ := nineAfter D
  obtain ⟨e0, e1, e2, e3, e4⟩ := fiveAfter G
  rcases h1 : inB r1 1 400 with _ | _
  · have HV : Hid (b = false) := Lib.hid (by rw [← HB.out]; unfold rokB; simp [h1])
    have H1 := Lib.hid h1
    clear h1
    refine wp_region_after (by kernel_rfl) (by kernel_rfl) ?_
    repeat (first | go_big_quiet_step ((go_at_call 174; with_reducible exact after_same (l1InR_is H1.out _))) | quiet_step ((go_at_call 174; with_reducible exact after_same (l1InR_is H1.out _))))
    refine wpQuiet_nil ?_
    intro pw
    go_wp2
    go_ret
    exact ⟨by rw [HV.out]; rfl, bel_trans E pw.bel⟩
  rcases h2 : okB s l c sh zs with _ | _
  · have HV : Hid (b = false) := Lib.hid (by rw [← HB.out]; unfold rokB shfB; simp [h2])
    have H1 := Lib.hid h1
    have H2 := Lib.hid h2
    clear h1 h2
    refine wp_region_after (by kernel_rfl) (by kernel_rfl) ?_
    repeat (first | go_big_quiet_step ((first | (go_at_call 174; with_reducible exact after_same (l1InR_is H1.out _)) | (go_at_call 133; exact after_of (specOkR_is H2.out A n cap _ HM.out (rowAfter HR.out _))))) | quiet_step ((first | (go_at_call 174; with_reducible exact after_same (l1InR_is H1.out _)) | (go_at_call 133; exact after_of (specOkR_is H2.out A n cap _ HM.out (rowAfter HR.out _))))))
    refine wpQuiet_nil ?_
    intro pw
    go_wp2
    go_ret
    exact ⟨by rw [HV.out]; rfl, bel_trans E pw.bel⟩
  obtain ⟨hs1, hs2⟩ := okB_sh h2
  have hw : IntKind.i64.wrap (sh - 1) = sh - 1 := IntWalk.i64_in _ (by omega)
  rcases h3 : inB r3 0 (sh - 1) with _ | _
  · have HV : Hid (b = false) := Lib.hid (by rw [← HB.out]; unfold rokB shfB; simp [h3])
    have H1 := Lib.hid h1
    have H2 := Lib.hid h2
    have H3 := Lib.hid h3
    clear h1 h2 h3
    refine wp_region_after (by kernel_rfl) (by kernel_rfl) ?_
    repeat (first | go_big_quiet_step ((first | (go_at_call 174; with_reducible exact after_same (l1InR_is H1.out _)) | (go_at_call 133; exact after_of (specOkR_is H2.out A n cap _ HM.out (rowAfter HR.out _))) | (go_at_call 174; with_reducible exact after_same (l1InR_is H3.out _)))) | quiet_step ((first | (go_at_call 174; with_reducible exact after_same (l1InR_is H1.out _)) | (go_at_call 133; exact after_of (specOkR_is H2.out A n cap _ HM.out (rowAfter HR.out _))) | (go_at_call 174; with_reducible exact after_same (l1InR_is H3.out _)))))
    refine wpQuiet_nil ?_
    intro pw
    go_wp2
    go_ret
    exact ⟨by rw [HV.out]; rfl, bel_trans E pw.bel⟩
  obtain ⟨z, h4⟩ : ∃ z, sumN r1 r2 r3 r4 r5 r6 r7 ps = z := ⟨_, rfl⟩
  by_cases hz : r8 = z
  case neg =>
    have HV : Hid (b = false) := Lib.hid (by rw [← HB.out]; unfold rokB; simp [h4, hz])
    have hz1 : (r8 != z) = true := by simpa using hz
    have H1 := Lib.hid h1
    have H2 := Lib.hid h2
    have H3 := Lib.hid h3
    have H4 := Lib.hid h4
    clear h1 h2 h3 h4 hz
    refine wp_region_after (by kernel_rfl) (by kernel_rfl) ?_
    repeat (first | go_big_quiet_step ((first | (go_at_call 174; with_reducible exact after_same (l1InR_is H1.out _)) | (go_at_call 133; exact after_of (specOkR_is H2.out A n cap _ HM.out (rowAfter HR.out _))) | (go_at_call 174; with_reducible exact after_same (l1InR_is H3.out _)) | (go_at_call 141; exact after_of (specSumOfB_is H4.out L m mc _ _ hm (pairsAfter HP.out _))))) | quiet_step ((first | (go_at_call 174; with_reducible exact after_same (l1InR_is H1.out _)) | (go_at_call 133; exact after_of (specOkR_is H2.out A n cap _ HM.out (rowAfter HR.out _))) | (go_at_call 174; with_reducible exact after_same (l1InR_is H3.out _)) | (go_at_call 141; exact after_of (specSumOfB_is H4.out L m mc _ _ hm (pairsAfter HP.out _))))))
    refine wpQuiet_nil ?_
    intro pw
    go_wp2
    go_ret
    exact ⟨by rw [HV.out]; rfl, bel_trans E pw.bel⟩
  subst hz
  have HK : Hid (kndB s l c sh zs r2 r3 r4 r5 r6 r7 ps = b) := Lib.hid (by rw [← HB.out]; unfold rokB shfB; simp [h1, h2, h3, h4])
  have hz1 : (r8 != r8) = false := by simp
  have H1 := Lib.hid h1
  have H2 := Lib.hid h2
  have H3 := Lib.hid h3
  have H4 := Lib.hid h4
  clear h1 h2 h3 h4
  refine wp_region_after (by kernel_rfl) (by kernel_rfl) ?_
  repeat (first | go_big_quiet_step ((first | (go_at_call 174; with_reducible exact after_same (l1InR_is H1.out _)) | (go_at_call 133; exact after_of (specOkR_is H2.out A n cap _ HM.out (rowAfter HR.out _))) | (go_at_call 174; with_reducible exact after_same (l1InR_is H3.out _)) | (go_at_call 141; exact after_of (specSumOfB_is H4.out L m mc _ _ hm (pairsAfter HP.out _))))) | quiet_step ((first | (go_at_call 174; with_reducible exact after_same (l1InR_is H1.out _)) | (go_at_call 133; exact after_of (specOkR_is H2.out A n cap _ HM.out (rowAfter HR.out _))) | (go_at_call 174; with_reducible exact after_same (l1InR_is H3.out _)) | (go_at_call 141; exact after_of (specSumOfB_is H4.out L m mc _ _ hm (pairsAfter HP.out _))))))
  refine wpQuiet_nil ?_
  intro pw
  clear f0 f1 f2 f3 f4 f5 f6 f7 f8 e0 e1 e2 e3 e4 H1 H2 H3 H4
  have D := D.later pw.bel D.lt
  have G := G.later pw.bel G.lt
  have E := bel_trans E pw.bel
  have R0 := rowAfter HR.out pw
  have P0 := pairsAfter HP.out pw
  generalize pw.x = w1 at D G E R0 P0 ⊢
  have HR := Lib.hid R0
  have HP := Lib.hid P0
  clear R0 P0
  obtain ⟨d0, d1, d2, d3, d4, d5, d6, d7, d8⟩ := D.nine
  obtain ⟨g0, g1, g2, g3, g4⟩ := G.five
  by_cases h1 : r2 = 1
  · subst h1
    rcases ho : opnB s l c sh zs (r4, r5, r6, r7) with _ | _
    · have HV : Hid (b = false) := Lib.hid (by rw [← HK.out]; unfold kndB; simp [ho])
      have HO := Lib.hid ho
      clear ho
      go_wp2_with fail
      refine (l7OpenB_is HO.out A n cap w1 HM.out HR.out).mono ?_
      rintro e w2 ⟨rfl, hb⟩
      have E2 := bel_trans E hb
      go_wp2
      go_ret
      exact ⟨by rw [HV.out]; rfl, E2⟩
    · have HO := Lib.hid ho
      have HV : Hid (b = decide (ps = [])) := Lib.hid (by rw [← HK.out]; unfold kndB; simp [ho])
      clear ho
      go_wp2_with fail
      refine (l7OpenB_is HO.out A n cap w1 HM.out HR.out).mono ?_
      rintro e w2 ⟨rfl, hb⟩
      have E2 := bel_trans E hb
      have d7 := (D.later hb D.lt).cell 7
      rcases Nat.eq_zero_or_pos m with hz | hz
      · have HQ : Hid (b = true) := Lib.hid (by
          have : ps = [] := List.eq_nil_of_length_eq_zero (HL.out.trans hz)
          rw [HV.out]; simp [this])
        subst hz
        go_wp2
        go_ret
        exact ⟨by rw [HQ.out]; rfl, E2⟩
      · have HQ : Hid (b = false) := Lib.hid (by
          have : ps ≠ [] := fun e => by have := HL.out; rw [e] at this; simp at this; omega
          rw [HV.out]; simp [this])
        have hm0 : ((m : Int) == 0) = false := by simp; omega
        go_wp2
        go_ret
        exact ⟨by rw [HQ.out]; rfl, E2⟩
  by_cases h2 : r2 = 2
  · subst h2
    by_cases h4 : r4 = 0
    · subst h4
      rcases zero_cases r5 r6 with ⟨rfl, rfl⟩ | ⟨hcase, hnz⟩
      · have HV : Hid (b = false) := Lib.hid (by rw [← HK.out]; unfold kndB; simp)
        go_wp2_with fail
        refine (l4Zero_yes w1).mono ?_
        rintro e w2 ⟨rfl, hb⟩
        have E2 := bel_trans E hb
        go_wp2
        go_ret
        exact ⟨by rw [HV.out]; rfl, E2⟩
      · have HF : Hid (lefB s l c sh zs r3 r5 r6 r7 ps = b) := Lib.hid (by rw [← HK.out]; unfold kndB; simp [hnz])
        have HC := Lib.hid hcase
        clear hnz hcase
        go_wp2_with fail
        refine (l4Zero_no r5 r6 HC.out w1).mono ?_
        rintro e w2 ⟨rfl, hb⟩
        have E2 := bel_trans E hb
        have D2 := D.later hb D.lt
        have G2 := G.later hb G.lt
        have HR2 := Lib.hid ((HR.out.below hb (Nat.le_refl _)).more hb.size)
        have HP2 := Lib.hid (HP.out.later hb)
        clear d0 d1 d2 d3 d4 d5 d6 d7 d8 g0 g1 g2 g3 g4 hb D G E HR HP
        obtain ⟨d0, d1, d2, d3, d4, d5, d6, d7, d8⟩ := D2.nine
        obtain ⟨g0, g1, g2, g3, g4⟩ := G2.five
        go_wp2_with fail
        refine (l7ProvenB_is HF.out A n cap L m mc w2 HM.out HR2.out hm HP2.out).mono ?_
        rintro e w3 ⟨rfl, hb⟩
        have E3 := bel_trans E2 hb
        go_wp2
        go_ret
        exact ⟨rfl, E3⟩
    · have HV : Hid (b = false) := Lib.hid (by rw [← HK.out]; unfold kndB; simp [h4])
      have h4' : (r4 == 0) = false := by simpa using h4
      go_wp2
      go_ret
      exact ⟨by rw [HV.out]; rfl, E⟩
  · have HV : Hid (b = false) := Lib.hid (by rw [← HK.out]; unfold kndB; simp [h1, h2])
    have h1' : (r2 == 1) = false := by simpa using h1
    have h2' : (r2 == 2) = false := by simpa using h2
    go_wp2
    go_ret
    exact ⟨by rw [HV.out]; rfl, E⟩

end Go.Proofs.YtjdepjpjjgkmbaaGreat
