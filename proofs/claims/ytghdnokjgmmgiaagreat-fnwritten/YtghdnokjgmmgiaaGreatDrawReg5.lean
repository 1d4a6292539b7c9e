/- The model's l7DrawAny, walked (written by draw_reg5.py). -/
import Derived.Test.YtghdnokjgmmgiaaGreatDrawReg4
namespace Go.Proofs.YtghdnokjgmmgiaaGreat
open Go.RowKit Go.Deep

set_option maxRecDepth 100000 in
set_option maxHeartbeats 8000000 in
theorem l7DrawAny_any (g : Nat) (A : Option Addr) (n cap : Nat) (w : World) (hc : Cur w 102 .i64 g A n cap) :
    Calls Tryz.prog 28 #[.pointer (some ⟨g, 0, none⟩)] w (DrawnGR g A n cap w) := by
  obtain ⟨i0, hi0, hz0, hz1, hz2⟩ := info_parts Tryz.infoSealI
  obtain ⟨j0, hj0, hy0, hy1, hy2⟩ := info_parts Tryz.infoOpen
  have hgl := hc.lt
  have E0 := bel_trans (bel_alloc w (.cells #[.int .i64 0, .int .i64 0, .int .i64 0, .int .i64 0, .slice none 0 0] 26)) (bel_alloc _ (.cells #[.int .i64 0, .int .i64 0, .int .i64 0, .slice none 0 0, .slice none 0 0] 32))
  have R1 := (Box.new w 26 #[.int .i64 0, .int .i64 0, .int .i64 0, .int .i64 0, .slice none 0 0]).alloc (.cells #[.int .i64 0, .int .i64 0, .int .i64 0, .slice none 0 0, .slice none 0 0] 32)
  have R2 := Box.new (w.alloc (.cells #[.int .i64 0, .int .i64 0, .int .i64 0, .int .i64 0, .slice none 0 0] 26)) 32 #[.int .i64 0, .int .i64 0, .int .i64 0, .slice none 0 0, .slice none 0 0]
  simp only [World.size_alloc] at R2
  have hc0 := hc.kept (grown_bel E0 none) (fun q hq => by cases hq)
  clear hc
  go_enter Tryz.func28, Tryz.ntmps28
  go_wp2_with fail
  generalize ((w.alloc _).alloc _ : World) = w0 at E0 R1 R2 hc0 ⊢
  refine (l1DrawGroup_any g A n cap w0 hc0).mono ?_
  rintro e w1 ⟨s, l, c, sh, q, cap', zs, rfl, hown, hok, hs6, hc3, hc1, hg1⟩
  have hrow1 := own_row hown
  have hq1 := hown.lt q rfl
  have hz := R2.lt
  have hs0 := E0.size
  clear hown
  obtain ⟨ok1, _, ok2, _, _, _⟩ := okB_parts hok
  have hml : zs.length ≤ 100 ∧ 1 ≤ sh := by
    have h := hok
    simp only [okB, Bool.and_eq_true, decide_eq_true_eq] at h
    have h1 := h.1.2
    have h2 := (inB_true.1 h.1.1.1.2)
    omega
  obtain ⟨hml, hsh⟩ := hml
  generalize hM : zs.length = m at hrow1 hml
  clear hM
  have U2 := Box.new w1 26 #[.int .i64 s, .int .i64 l, .int .i64 c, .int .i64 sh, .slice (some ⟨q, 0, none⟩) m cap']
  have hb2 := bel_alloc w1 (.cells #[.int .i64 s, .int .i64 l, .int .i64 c, .int .i64 sh, .slice (some ⟨q, 0, none⟩) m cap'] 26)
  have G2 := grown_trans (grown_bel E0 (some g)) (grown_trans hg1 (grown_bel hb2 _))
  have S1 := (R1.kept hg1 (by intro e; injection e with e; omega)).later hb2 (by have := (R1.kept hg1 (by intro e; injection e with e; omega)).lt; omega)
  have S2 := (R2.kept hg1 (by intro e; injection e with e; omega)).later hb2 (by have := (R2.kept hg1 (by intro e; injection e with e; omega)).lt; omega)
  have r2 := (hrow1.below hb2 (Nat.le_refl _)).more hb2.size
  have hc2 := hc1.kept (grown_bel hb2 none) (fun q hq => by cases hq)
  have hs1 := hg1.size
  have hs2 := hb2.size
  have hul := U2.lt
  clear R1 R2 hc0 hc1 hg1 hrow1 hb2
  go_upto_region 2 with fail
  generalize (w1.alloc _ : World) = w2 at U2 G2 S1 S2 r2 hc2 hs2 hul ⊢
  obtain ⟨U, hU⟩ : ∃ U, U = w1.heap.size := ⟨_, rfl⟩
  rw [← hU] at U2 hul hs2 hs1 hq1 ⊢
  have hUl : w.heap.size + 2 ≤ U := by omega
  have hq2 : w.heap.size + 2 ≤ q := by omega
  have hqU : q ≠ U := by omega
  have hql : q < w2.heap.size := by omega
  have hgq : g ≠ q := by omega
  clear hU E0
  have HM : Hid (m ≤ maxLen) := by show m ≤ maxLen; unfold maxLen; omega
  replace hok := Lib.hid hok
  obtain ⟨d0, d1, d2, d3, d4⟩ := U2.five
  go_wp2_with fail
  refine (l1Below_any g A n cap sh w2 (by omega) hc2).mono ?_
  rintro e w3 ⟨x, ⟨hx0, hx1⟩, rfl, hc3', hg3⟩
  have U3 := U2.kept hg3 (by intro e; injection e with e; omega)
  have G3 := grown_trans G2 hg3
  have S13 := S1.kept hg3 (by intro e; injection e with e; omega)
  have S23 := S2.kept hg3 (by intro e; injection e with e; omega)
  have r3 := r2.kept hg3 (by intro e; injection e with e; omega)
  have hs3 := hg3.size
  clear U2 G2 S1 S2 r2 hc2 hg3 d0 d1 d2 d3 d4
  obtain ⟨d0, d1, d2, d3, d4⟩ := U3.five
  go_wp2_with fail
  refine (l7Draw_any g A n cap s l c sh q 0 m cap' zs x w3 HM.out ok2 (by omega) (by omega) (by omega) hc3' r3 hgq).mono ?_
  rintro e w4 ⟨a, b, d, u, v, ps, os, rfl, hps, hos, ou, ov, huv, hc4, hg4⟩
  obtain ⟨A3, c3, rfl⟩ := own_form ou
  obtain ⟨A4, c4, rfl⟩ := own_form ov
  have hb5 := bel_alloc w4 (.cells #[.int .i64 a, .int .i64 b, .int .i64 d, .slice A3 ps.length c3, .slice A4 os.length c4] 32)
  have hs4 := hg4.size
  have U4 := U3.kept hg4 (by intro e; injection e with e; omega)
  have K5 : RAs w (w4.alloc (.cells #[.int .i64 a, .int .i64 b, .int .i64 d, .slice A3 ps.length c3, .slice A4 os.length c4] 32)) g A n cap U w4.heap.size s l c sh q m cap' zs a b d (.slice A3 ps.length c3) (.slice A4 os.length c4) ps os := {
    cur := hc4.kept (grown_bel hb5 none) (fun q hq => by cases hq)
    grw := grown_trans (grown_trans G3 hg4) (grown_bel hb5 _)
    r1 := (S13.kept hg4 (by intro e; injection e with e; omega)).alloc _
    r2 := (S23.kept hg4 (by intro e; injection e with e; omega)).alloc _
    gr := U4.alloc _
    row := ((r3.kept hg4 (by intro e; injection e with e; omega)).below hb5 (Nat.le_refl _)).more hb5.size
    var := Box.new w4 _ _
    ou := ownLow (ou.kept (grown_bel hb5 none) (by cases Value.ownBlock (.slice A3 ps.length c3) <;> simp)) (by omega)
    ov := ownLow (ov.kept (grown_bel hb5 none) (by cases Value.ownBlock (.slice A4 os.length c4) <;> simp)) (by omega)
    gl := hgl
    ql := by have := hb5.size; omega
    q2 := hq2
    qU := hqU
    qV := by omega
    UV := by have := U4.lt; omega
    Ul := hUl
    Vl := by omega
    uU := own_ne ou (by omega)
    uV := fun e => by have := (ou.lt _ e).2; omega
    uq := own_ne ou (by omega)
    vU := own_ne ov (by omega)
    vV := fun e => by have := (ov.lt _ e).2; omega
    vq := own_ne ov (by omega)
    uv := huv }
  clear U3 U4 G3 S13 S23 r3 hc3' hg4 hc4 ou ov huv d0 d1 d2 d3 d4 hb5
  go_upto_region 4 with fail
  generalize (w4.alloc _ : World) = w5 at K5 ⊢
  generalize w4.heap.size = V at K5 ⊢
  clear hs0 hs1 hs2 hs3 hs4 hz hql hul hq1 hqU hUl hgq hq2
  go_wp2_with fail
  refine (l1Once_any g A n cap 6 w5 (by omega) K5.cur).mono ?_
  rintro e w6 ⟨bb, rfl, hcN, hgN⟩
  have K6 := K5.draw hgN hcN
  clear K5 hgN hcN
  go_upto_if 19 with fail
  go_cut [6] (fun xv wr => ∃ (x a b d : Int) (u v : Value) (ps : List (Int × Int)) (os : List Opn), xv = .int .i64 x ∧ ps.length ≤ 21 ∧ os.length ≤ 7 ∧ RAs w wr g A n cap U V s l c sh q m cap' zs a b d u v ps os)
  case first =>
    rcases bb with _ | _
    · go_wp2_with fail
      go_meet
      exact ⟨_, _, _, _, _, _, _, _, rfl, by omega, by omega, K6⟩
    · go_wp2_with fail
      refine (l1Below_any g A n cap 5 w6 (by omega) K6.cur).mono ?_
      rintro e w7 ⟨z, ⟨hz0', hz1'⟩, rfl, hcN, hgN⟩
      have K7 := K6.draw hgN hcN
      clear K6 hcN hgN
      have hcase : z = 0 ∨ z = 1 ∨ z = 2 ∨ z = 3 ∨ z = 4 := by omega
      clear hz0' hz1'
      rcases hcase with rfl | rfl | rfl | rfl | rfl
      · obtain ⟨x0, x1, x2, x3, x4⟩ := K7.var.five
        have fr := K7.var.frozen
        have HK := Lib.hid K7
        clear K7
        go_wp2_with fail
        go_meet
        exact ⟨_, _, _, _, _, _, _, _, rfl, by omega, by omega, HK.out.set 2 _ rfl⟩
      · go_wp2_with fail
        refine (l2DrawAny_any g A n cap w7 K7.cur).mono ?_
        rintro e w8 ⟨y, y2, rfl, hcN, hgN⟩
        have K8 := K7.draw hgN hcN
        clear K7 hgN hcN
        obtain ⟨x0, x1, x2, x3, x4⟩ := K8.var.five
        have fr := K8.var.frozen
        have HK := Lib.hid ((K8.set 0 (.int .i64 y) rfl).set 1 (.int .i64 y2) rfl)
        clear K8
        go_wp2_with fail
        go_meet
        exact ⟨_, _, _, _, _, _, _, _, rfl, by omega, by omega, HK.out⟩
      · obtain ⟨x0, x1, x2, x3, x4⟩ := K7.var.five
        go_wp2_with fail
        refine wp_region_sink 10 (fun w' => w'.cell? ⟨V, 4, none⟩ = some (.slice A4 os.length c4)) (by kernel_rfl) (K7.var.cell 4) (fun hH => ?_)
        refine wpAnyE_take (i := 0) (v := ?vv0) (by simp only [List.getElem?_toArray, List.getElem?_cons_zero]; rfl) (by kernel_rfl) (by kernel_rfl) (by kernel_rfl) (by exact fun _ _ _ h => h) (by kernel_rfl) (Or.inl ⟨by rfl, ?yv0⟩) hH ?rv0
        case yv0 => (intro w' hSw; (try dsimp only at hSw); go_simp; try with_reducible rfl)
        try simp only [Act.put, List.setIfInBounds_toArray, List.set_cons_zero, List.set_cons_succ]
        refine wpAnyE_take (i := 1) (v := ?vv1) (by simp only [List.getElem?_toArray, List.getElem?_cons_succ, List.getElem?_cons_zero]; rfl) (by kernel_rfl) (by kernel_rfl) (by kernel_rfl) (by exact fun _ _ _ h => h) (by kernel_rfl) (Or.inl ⟨by rfl, ?yv1⟩) hH ?rv1
        case yv1 => (intro w' hSw; (try dsimp only at hSw); go_simp; try with_reducible rfl)
        try simp only [Act.put, List.setIfInBounds_toArray, List.set_cons_zero, List.set_cons_succ]
        refine wpAnyE_take (i := 2) (v := ?vv2) (by simp only [List.getElem?_toArray, List.getElem?_cons_succ, List.getElem?_cons_zero]; rfl) (by kernel_rfl) (by kernel_rfl) (by kernel_rfl) (by exact fun _ _ _ h => h) (by kernel_rfl) (Or.inl ⟨by rfl, ?yv2⟩) hH ?rv2
        case yv2 => (intro w' hSw; (try dsimp only at hSw); go_simp; try with_reducible rfl)
        try simp only [Act.put, List.setIfInBounds_toArray, List.set_cons_zero, List.set_cons_succ]
        refine wpAnyE_take (i := 4) (v := ?vv4) (by simp only [List.getElem?_toArray, List.getElem?_cons_succ, List.getElem?_cons_zero]; rfl) (by kernel_rfl) (by kernel_rfl) (by kernel_rfl) (by exact fun _ _ _ h => h) (by kernel_rfl) (Or.inl ⟨by rfl, ?yv4⟩) hH ?rv4
        case yv4 => (intro w' hSw; (try dsimp only at hSw); go_simp; try with_reducible rfl)
        try simp only [Act.put, List.setIfInBounds_toArray, List.set_cons_zero, List.set_cons_succ]
        refine wpAnyE_one (i := 3) (by kernel_rfl) (by simp only [List.getElem?_toArray, List.getElem?_cons_succ, List.getElem?_cons_zero]; rfl) (fun K hK => ?_)
        go_simp
        refine (l1Below_any g A n cap 9 _ (by omega) ?_).mono ?_
        · exact K7.cur
        rintro e w8 ⟨y, _, rfl, hcN, hgN⟩
        have K8 := K7.draw (grown_of_drew hgN) hcN
        clear hH
        refine hK.out _ _ (K8.var.cell 4) (fun hH => ?_)
        clear hK K
        try simp only [Act.put, List.setIfInBounds_toArray, List.set_cons_zero, List.set_cons_succ]
        refine wpAnyE_one (i := 5) (by kernel_rfl) (by simp only [List.getElem?_toArray, List.getElem?_cons_succ, List.getElem?_cons_zero]; rfl) (fun K hK => ?_)
        go_simp
        refine (l2DrawAny_any g A n cap w8 K8.cur).mono ?_
        rintro e w9 ⟨y2, y3, rfl, hcM, hgM⟩
        have K9 := K8.draw hgM hcM
        have hv9 := K9.var.lt
        have vl9 := K9.Vl
        clear hH
        refine hK.out _ _ (K9.var.cell 4) (fun hH => ?_)
        clear hK K
        try simp only [Act.put, List.setIfInBounds_toArray, List.set_cons_zero, List.set_cons_succ]
        refine wpAnyE_take (i := 6) (v := ?vv6) (by simp only [List.getElem?_toArray, List.getElem?_cons_succ, List.getElem?_cons_zero]; rfl) (by kernel_rfl) (by kernel_rfl) (by kernel_rfl) (by exact fun _ _ _ h => h) (by kernel_rfl) (Or.inl ⟨by rfl, ?yv6⟩) hH ?rv6
        case yv6 => (intro w' hSw; (try dsimp only at hSw); go_simp; try with_reducible rfl)
        try simp only [Act.put, List.setIfInBounds_toArray, List.set_cons_zero, List.set_cons_succ]
        refine wpAnyE_one (i := 7) (by kernel_rfl) (by simp only [List.getElem?_toArray, List.getElem?_cons_succ, List.getElem?_cons_zero]; rfl) (fun K hK => ?_)
        go_simp
        clear hH
        refine hK.out _ _ ((K9.var.alloc _).cell 4) (fun hH => ?_)
        clear hK K
        try simp only [Act.put, List.setIfInBounds_toArray, List.set_cons_zero, List.set_cons_succ]
        refine wpAnyE_one (i := 8) (by kernel_rfl) (by simp only [List.getElem?_toArray, List.getElem?_cons_succ, List.getElem?_cons_zero]; rfl) (fun K hK => ?_)
        refine step_append_lies _ (by rfl) _ _ _ (by rfl) (w.heap.size + 2) 82 j0 _ 4 32 Tryz.underlying30 hj0 hy0 hy1 hy2 rfl (by omega) (.slice A4 os.length c4) os.length (flatO os) (by rfl) (K9.ov.alloc _) ⟨w9.heap.size, 0, none⟩ 1 1 [.int .i64 y, .int .i64 y2, .int .i64 y3, .int .i64 0] (by rfl) (by rfl) (World.news_of_block (cs := #[.int .i64 y, .int .i64 y2, .int .i64 y3, .int .i64 0]) (t := 82) (fr := (0, 0)) (heap_alloc_new w9 _)) (by simp [Value.oneCell']) (by omega) (by unfold maxLen; omega) (by omega) (by simp; omega) (w9.heap.size + 1) (by simp) ?_
        intro gg cap2 wd hown2 hgrow2 hat hlt2
        have gd := grown_trans (grown_bel (bel_alloc w9 (.cells #[.int .i64 y, .int .i64 y2, .int .i64 y3, .int .i64 0] 82)) (Value.ownBlock (.slice A4 os.length c4))) hgrow2
        have bd := K9.var.kept gd K9.vV
        clear hH
        refine hK.out _ _ (bd.cell 4) (fun hH => ?_)
        clear hK K
        try simp only [Act.put, List.setIfInBounds_toArray, List.set_cons_zero, List.set_cons_succ]
        refine wpAnyE_take (i := 9) (v := ?vv9) (by simp only [List.getElem?_toArray, List.getElem?_cons_succ, List.getElem?_cons_zero]; rfl) (by kernel_rfl) (by kernel_rfl) (by kernel_rfl) (by exact fun _ _ _ h => h) (by kernel_rfl) (Or.inl ⟨by rfl, ?yv9⟩) hH ?rv9
        case yv9 => (intro w' hSw; (try dsimp only at hSw); go_simp; try with_reducible rfl)
        try simp only [Act.put, List.setIfInBounds_toArray, List.set_cons_zero, List.set_cons_succ]
        have c4' := bd.cell 4
        have f4 := bd.frozen 4
        refine wpAnyE_last (by kernel_rfl) (by simp only [List.getElem?_toArray, List.getElem?_cons_succ, List.getElem?_cons_zero]; rfl) (by kernel_rfl) (fun K hK => ?_)
        go_simp
        refine hK.out _ _ ?_
        clear hK K
        try simp only [Act.put, List.setIfInBounds_toArray, List.set_cons_zero, List.set_cons_succ]
        have HK := Lib.hid (K9.pushV (v' := .slice (some ⟨gg, 0, none⟩) (os.length + 1) cap2) (os' := os ++ [(y, y2, y3, 0)]) gd (by simpa [flatO_snoc] using hown2) (by rcases hat with h | h; exact .inl h; exact .inr ⟨gg, rfl, by omega⟩))
        clear K7 K8 K9 bd gd hown2 hgrow2 hcN hgN hcM hgM x0 x1 x2 x3 x4 c4' f4
        go_wp2_with fail
        go_meet
        exact ⟨_, _, _, _, _, _, _, _, rfl, by omega, by simp; omega, HK.out⟩
      · obtain ⟨x0, x1, x2, x3, x4⟩ := K7.var.five
        go_wp2_with fail
        refine wp_region_sink 8 (fun w' => w'.cell? ⟨V, 3, none⟩ = some (.slice A3 ps.length c3)) (by kernel_rfl) (K7.var.cell 3) (fun hH => ?_)
        refine wpAnyE_take (i := 0) (v := ?vu0) (by simp only [List.getElem?_toArray, List.getElem?_cons_zero]; rfl) (by kernel_rfl) (by kernel_rfl) (by kernel_rfl) (by exact fun _ _ _ h => h) (by kernel_rfl) (Or.inl ⟨by rfl, ?yu0⟩) hH ?ru0
        case yu0 => (intro w' hSw; (try dsimp only at hSw); go_simp; try with_reducible rfl)
        try simp only [Act.put, List.setIfInBounds_toArray, List.set_cons_zero, List.set_cons_succ]
        refine wpAnyE_take (i := 1) (v := ?vu1) (by simp only [List.getElem?_toArray, List.getElem?_cons_succ, List.getElem?_cons_zero]; rfl) (by kernel_rfl) (by kernel_rfl) (by kernel_rfl) (by exact fun _ _ _ h => h) (by kernel_rfl) (Or.inl ⟨by rfl, ?yu1⟩) hH ?ru1
        case yu1 => (intro w' hSw; (try dsimp only at hSw); go_simp; try with_reducible rfl)
        try simp only [Act.put, List.setIfInBounds_toArray, List.set_cons_zero, List.set_cons_succ]
        refine wpAnyE_take (i := 2) (v := ?vu2) (by simp only [List.getElem?_toArray, List.getElem?_cons_succ, List.getElem?_cons_zero]; rfl) (by kernel_rfl) (by kernel_rfl) (by kernel_rfl) (by exact fun _ _ _ h => h) (by kernel_rfl) (Or.inl ⟨by rfl, ?yu2⟩) hH ?ru2
        case yu2 => (intro w' hSw; (try dsimp only at hSw); go_simp; try with_reducible rfl)
        try simp only [Act.put, List.setIfInBounds_toArray, List.set_cons_zero, List.set_cons_succ]
        refine wpAnyE_one (i := 3) (by kernel_rfl) (by simp only [List.getElem?_toArray, List.getElem?_cons_succ, List.getElem?_cons_zero]; rfl) (fun K hK => ?_)
        go_simp
        refine (l1Below_any g A n cap 5 _ (by omega) ?_).mono ?_
        · exact K7.cur
        rintro e w8 ⟨y, _, rfl, hcN, hgN⟩
        have K8 := K7.draw (grown_of_drew hgN) hcN
        have hv8 := K8.var.lt
        have vl8 := K8.Vl
        clear hH
        refine hK.out _ _ (K8.var.cell 3) (fun hH => ?_)
        clear hK K
        try simp only [Act.put, List.setIfInBounds_toArray, List.set_cons_zero, List.set_cons_succ]
        refine wpAnyE_take (i := 4) (v := ?vu4) (by simp only [List.getElem?_toArray, List.getElem?_cons_succ, List.getElem?_cons_zero]; rfl) (by kernel_rfl) (by kernel_rfl) (by kernel_rfl) (by exact fun _ _ _ h => h) (by kernel_rfl) (Or.inl ⟨by rfl, ?yu4⟩) hH ?ru4
        case yu4 => (intro w' hSw; (try dsimp only at hSw); go_simp; try with_reducible rfl)
        try simp only [Act.put, List.setIfInBounds_toArray, List.set_cons_zero, List.set_cons_succ]
        refine wpAnyE_one (i := 5) (by kernel_rfl) (by simp only [List.getElem?_toArray, List.getElem?_cons_succ, List.getElem?_cons_zero]; rfl) (fun K hK => ?_)
        go_simp
        clear hH
        refine hK.out _ _ ((K8.var.alloc _).cell 3) (fun hH => ?_)
        clear hK K
        try simp only [Act.put, List.setIfInBounds_toArray, List.set_cons_zero, List.set_cons_succ]
        refine wpAnyE_one (i := 6) (by kernel_rfl) (by simp only [List.getElem?_toArray, List.getElem?_cons_succ, List.getElem?_cons_zero]; rfl) (fun K hK => ?_)
        refine step_append_lies _ (by rfl) _ _ _ (by rfl) (w.heap.size + 2) 94 i0 _ 2 16 Tryz.underlying29 hi0 hz0 hz1 hz2 rfl (by omega) (.slice A3 ps.length c3) ps.length (flatP ps) (by rfl) (K8.ou.alloc _) ⟨w8.heap.size, 0, none⟩ 1 1 [.int .i64 y, .int .i64 0] (by rfl) (by rfl) (World.news_of_block (cs := #[.int .i64 y, .int .i64 0]) (t := 94) (fr := (0, 0)) (heap_alloc_new w8 _)) (by simp [Value.oneCell']) (by omega) (by unfold maxLen; omega) (by omega) (by simp; omega) (w8.heap.size + 1) (by simp) ?_
        intro gg cap2 wd hown2 hgrow2 hat hlt2
        have gd := grown_trans (grown_bel (bel_alloc w8 (.cells #[.int .i64 y, .int .i64 0] 94)) (Value.ownBlock (.slice A3 ps.length c3))) hgrow2
        have bd := K8.var.kept gd K8.uV
        clear hH
        refine hK.out _ _ (bd.cell 3) (fun hH => ?_)
        clear hK K
        try simp only [Act.put, List.setIfInBounds_toArray, List.set_cons_zero, List.set_cons_succ]
        refine wpAnyE_take (i := 7) (v := ?vu7) (by simp only [List.getElem?_toArray, List.getElem?_cons_succ, List.getElem?_cons_zero]; rfl) (by kernel_rfl) (by kernel_rfl) (by kernel_rfl) (by exact fun _ _ _ h => h) (by kernel_rfl) (Or.inl ⟨by rfl, ?yu7⟩) hH ?ru7
        case yu7 => (intro w' hSw; (try dsimp only at hSw); go_simp; try with_reducible rfl)
        try simp only [Act.put, List.setIfInBounds_toArray, List.set_cons_zero, List.set_cons_succ]
        have c4' := bd.cell 3
        have f4 := bd.frozen 3
        refine wpAnyE_last (by kernel_rfl) (by simp only [List.getElem?_toArray, List.getElem?_cons_succ, List.getElem?_cons_zero]; rfl) (by kernel_rfl) (fun K hK => ?_)
        go_simp
        refine hK.out _ _ ?_
        clear hK K
        try simp only [Act.put, List.setIfInBounds_toArray, List.set_cons_zero, List.set_cons_succ]
        have HK := Lib.hid (K8.pushU (u' := .slice (some ⟨gg, 0, none⟩) (ps.length + 1) cap2) (ps' := ps ++ [(y, 0)]) gd (by simpa [flatP_snoc] using hown2) (by rcases hat with h | h; exact .inl h; exact .inr ⟨gg, rfl, by omega⟩))
        clear K7 K8 bd gd hown2 hgrow2 hcN hgN x0 x1 x2 x3 x4 c4' f4
        go_wp2_with fail
        go_meet
        exact ⟨_, _, _, _, _, _, _, _, rfl, by simp; omega, by omega, HK.out⟩
      · go_wp2_with fail
        refine (l1From_any g A n cap (-1) 4 w7 (by omega) (by omega) (by omega) K7.cur).mono ?_
        rintro e w8 ⟨y, _, rfl, hcN, hgN⟩
        have K8 := K7.draw hgN hcN
        clear K7 hgN hcN
        go_wp2_with fail
        go_meet
        exact ⟨_, _, _, _, _, _, _, _, rfl, by omega, by omega, K8⟩
  case rest =>
  clear K6 x hx0 hx1 hps hos ps os a b d A3 A4 c3 c4
  obtain ⟨x, a, b, d, u, v, ps, os, rfl, hps, hos, K9⟩ := hcut
  obtain ⟨w9, rfl⟩ : ∃ x, x = wc := ⟨_, rfl⟩
  obtain ⟨A3, c3, rfl⟩ := own_form K9.ou
  obtain ⟨A4, c4, rfl⟩ := own_form K9.ov
  obtain ⟨d0, d1, d2, d3, d4⟩ := K9.gr.five
  obtain ⟨x0, x1, x2, x3, x4⟩ := K9.var.five
  obtain ⟨e0, e1, e2, e3, e4⟩ := K9.r1.five
  obtain ⟨t0, t1, t2, t3, t4⟩ := K9.r2.five
  have f1 := K9.r1.frozen
  have f2 := K9.r2.frozen
  have ul := K9.Ul
  have vl := K9.Vl
  have n1 : U ≠ w.heap.size := by omega
  have n2 : U ≠ w.heap.size + 1 := by omega
  have n3 : V ≠ w.heap.size := by omega
  have n4 : V ≠ w.heap.size + 1 := by omega
  have n1' : w.heap.size ≠ U := by omega
  have n2' : w.heap.size + 1 ≠ U := by omega
  have n3' : w.heap.size ≠ V := by omega
  have n4' : w.heap.size + 1 ≠ V := by omega
  have HK := Lib.hid (K9.fin hok.out hs6 hc3 hml hps hos x)
  clear K9
  go_wp2_with fail
  go_region
  go_wp2
  exact bodyPost_ret (v := .tuple #[.agg #[.int .i64 s, .int .i64 l, .int .i64 c, .int .i64 sh, .slice (some ⟨q, 0, none⟩) m cap'], .int .i64 x, .agg #[.int .i64 a, .int .i64 b, .int .i64 d, .slice A3 ps.length c3, .slice A4 os.length c4]]) (by simp [results, Tryz.results28, go_sem, e0, e1, e2, e3, e4, t0, t1, t2, t3, t4]) rfl (HK.out _ _ _ _ _ _ _ _ _ _)

end Go.Proofs.YtghdnokjgmmgiaaGreat
