/- The model's l7Draw: a shelf of a group, right, its lists one's own. -/
import Derived.Test.YtghdnokjgmmgiaaGreatDrawReg2
import Derived.Test.YtghdnokjgmmgiaaGreatSink
namespace Go.Proofs.YtghdnokjgmmgiaaGreat
open Go.RowKit Go.Deep

theorem own_slcQ {w : World} {base : Nat} {t : TypeId} {v : Value} {os : List Opn} (h : w.ownsRow base t 4 v os.length (flatO os)) : SlcQ w v os := by
  rcases h.2 with ⟨e, h0⟩ | ⟨g, cap, cur, e, hb, hg, h1, h2, h3, h4⟩
  · exact .inl ⟨e, List.eq_nil_of_length_eq_zero h0⟩
  · subst e
    exact .inr ⟨g, 0, _, cap, rfl, h1, h2, own_quads h⟩
theorem own_slcP {w : World} {base : Nat} {t : TypeId} {v : Value} {ps : List (Int × Int)} (h : w.ownsRow base t 2 v ps.length (flatP ps)) : Slc w v ps := by
  rcases h.2 with ⟨e, h0⟩ | ⟨g, cap, cur, e, hb, hg, h1, h2, h3, h4⟩
  · exact .inl ⟨e, List.eq_nil_of_length_eq_zero h0⟩
  · subst e
    exact .inr ⟨g, 0, _, cap, rfl, own_pairs h⟩
theorem RSt.fin2 {w wr w7 w8 : World} {g : Nat} {A : Option Addr} {n cap : Nat} {s l c sh : Int} {q o m cap' : Nat} {zs : List Int} {v : Value} {os : List Opn} {a b d : Int} {g1 c1 g2 c2 : Nat} {D : List (Int × Int)} (h : RSt w wr g A n cap s l c sh q o m cap' zs v os) (hgl : g < w.heap.size) (hol : os.length ≤ 6) (hD : D = [] ∨ D.length ≤ 20) (hne : g1 ≠ g2) (hb : Below wr.heap.size wr w7) (hb8 : Below w7.heap.size w7 w8)
    (o1 : w8.ownsRow w7.heap.size 94 2 (.slice (some ⟨g1, 0, none⟩) D.length c1) D.length (flatP D)) (o2 : w8.ownsRow w7.heap.size 82 4 (.slice (some ⟨g2, 0, none⟩) os.length c2) os.length (flatO os)) (y0 y1 y2 y3 y4 x0 x1 x2 x3 x4 : Value) :
    DrawnReg g A n cap w (.returned (.agg #[.int .i64 a, .int .i64 b, .int .i64 d, .slice (some ⟨g1, 0, none⟩) D.length c1, .slice (some ⟨g2, 0, none⟩) os.length c2])) ((((((((((w8.setCell ⟨w.heap.size + 1 + 1, 0, none⟩ y0).setCell ⟨w.heap.size + 1 + 1, 1, none⟩ y1).setCell ⟨w.heap.size + 1 + 1, 2, none⟩ y2).setCell ⟨w.heap.size + 1 + 1, 3, none⟩ y3).setCell ⟨w.heap.size + 1 + 1, 4, none⟩ y4).setCell ⟨w.heap.size + 1, 0, none⟩ x0).setCell ⟨w.heap.size + 1, 1, none⟩ x1).setCell ⟨w.heap.size + 1, 2, none⟩ x2).setCell ⟨w.heap.size + 1, 3, none⟩ x3).setCell ⟨w.heap.size + 1, 4, none⟩ x4) := by
  have h8 := h.later (bel_trans hb hb8)
  have hy := h.Y.lt
  have hs := hb.size
  have gy := grown5 w8 (w.heap.size + 1 + 1) y0 y1 y2 y3 y4
  have gx := grown5 (((((w8.setCell ⟨w.heap.size + 1 + 1, 0, none⟩ y0).setCell ⟨w.heap.size + 1 + 1, 1, none⟩ y1).setCell ⟨w.heap.size + 1 + 1, 2, none⟩ y2).setCell ⟨w.heap.size + 1 + 1, 3, none⟩ y3).setCell ⟨w.heap.size + 1 + 1, 4, none⟩ y4) (w.heap.size + 1) x0 x1 x2 x3 x4
  have l1 := (o1.lt g1 rfl).1
  have l2 := (o2.lt g2 rfl).1
  refine ⟨a, b, d, _, _, D, os, rfl, ?_, hol, ownLow ((o1.kept gy (.inr ?_)).kept gx (.inr ?_)) (by omega), ownLow ((o2.kept gy (.inr ?_)).kept gx (.inr ?_)) (by omega), .inr ?_, (h8.cur.kept gy ?_).kept gx ?_, grown_far (grown_far h8.grw gy ?_) gx ?_⟩
  · rcases hD with rfl | hD
    · simp
    · exact hD
  · intro e; injection e with e; simp at e; omega
  · intro e; injection e with e; simp at e; omega
  · intro e; injection e with e; simp at e; omega
  · intro e; injection e with e; simp at e; omega
  · intro e; injection e with e; simp at e; omega
  · intro k hk; injection hk with hk; omega
  · intro k hk; injection hk with hk; omega
  · intro k hk; injection hk with hk; omega
  · intro k hk; injection hk with hk; omega

set_option maxRecDepth 100000 in
set_option maxHeartbeats 4000000 in
theorem l7Draw_any (g : Nat) (A : Option Addr) (n cap : Nat) (s l c sh : Int) (q o m cap' : Nat) (zs : List Int) (x : Int) (w : World) (hm : m ≤ maxLen) (hc1 : 1 ≤ c) (hc6 : c ≤ 6) (hs0 : 0 ≤ s) (hs9 : s ≤ 10) (hc : Cur w 102 .i64 g A n cap) (hr : Row w w.heap.size (some ⟨q, o, none⟩) m zs) (hgq : g ≠ q) :
    Calls Tryz.prog 65 #[.pointer (some ⟨g, 0, none⟩), .agg #[.int .i64 s, .int .i64 l, .int .i64 c, .int .i64 sh, .slice (some ⟨q, o, none⟩) m cap'], .int .i64 x] w (DrawnReg g A n cap w) := by
  obtain ⟨i0, hi0, hz0, hz1, hz2⟩ := info_parts Tryz.infoOpen
  have hgl := hc.lt
  have K0 : RSt w (((w.alloc (.cells #[.int .i64 s, .int .i64 l, .int .i64 c, .int .i64 sh, .slice (some ⟨q, o, none⟩) m cap'] 26)).alloc (.cells #[.int .i64 0, .int .i64 0, .int .i64 0, .slice none 0 0, .slice none 0 0] 32)).alloc (.cells #[.int .i64 0, .int .i64 0, .int .i64 0, .slice none 0 0, .slice none 0 0] 32)) g A n cap s l c sh q o m cap' zs (.slice none 0 0) [] := by
    have E := bel_trans (bel_trans (bel_alloc w (.cells #[.int .i64 s, .int .i64 l, .int .i64 c, .int .i64 sh, .slice (some ⟨q, o, none⟩) m cap'] 26)) (bel_alloc _ (.cells #[.int .i64 0, .int .i64 0, .int .i64 0, .slice none 0 0, .slice none 0 0] 32))) (bel_alloc _ (.cells #[.int .i64 0, .int .i64 0, .int .i64 0, .slice none 0 0, .slice none 0 0] 32))
    refine ⟨hc.kept (grown_bel E none) (fun q hq => by cases hq), grown_bel E _, ((Box.new w _ _).alloc _).alloc _, ?_, ?_, ⟨rfl, .inl ⟨rfl, rfl⟩⟩, hr.below E (Nat.le_refl _)⟩
    · have := (Box.new (w.alloc (.cells #[.int .i64 s, .int .i64 l, .int .i64 c, .int .i64 sh, .slice (some ⟨q, o, none⟩) m cap'] 26)) 32 #[.int .i64 0, .int .i64 0, .int .i64 0, .slice none 0 0, .slice none 0 0]).alloc (.cells #[.int .i64 0, .int .i64 0, .int .i64 0, .slice none 0 0, .slice none 0 0] 32)
      simp only [World.size_alloc] at this
      exact this
    · have := Box.new ((w.alloc (.cells #[.int .i64 s, .int .i64 l, .int .i64 c, .int .i64 sh, .slice (some ⟨q, o, none⟩) m cap'] 26)).alloc (.cells #[.int .i64 0, .int .i64 0, .int .i64 0, .slice none 0 0, .slice none 0 0] 32)) 32 #[.int .i64 0, .int .i64 0, .int .i64 0, .slice none 0 0, .slice none 0 0]
      simp only [World.size_alloc] at this
      exact this
  have HM := Lib.hid hm
  clear hr hm hc
  go_enter Tryz.func65, Tryz.ntmps65
  go_wp2_with fail
  generalize (((w.alloc _).alloc _).alloc _ : World) = w1 at K0 ⊢
  go_loopw [8] (fun iv wr => ∃ (i : Nat) (v : Value) (os : List Opn), i ≤ 6 ∧ iv = .int .i64 i ∧ os.length ≤ i ∧ RSt w wr g A n cap s l c sh q o m cap' zs v os) (fun i _ => 6 - (intOf i).toNat)
  case atStart => exact ⟨0, _, [], by omega, rfl, by simp, K0⟩
  case round =>
    obtain ⟨i, v, os, hi, rfl, hol, hK⟩ := hrel
    clear K0
    obtain ⟨d0, d1, d2, d3, d4⟩ := hK.G.five
    by_cases hlt : (i : Int) < c
    · have hi6 : i < 6 := by omega
      go_wp2_with fail
      refine (l1Once_any g A n cap 2 wr (by omega) hK.cur).mono ?_
      rintro e w2 ⟨b, rfl, hc2, hg2⟩
      have K7 := hK.draw hgl hgq hg2 hc2
      clear hK hc2 hg2 d0 d1 d2 d3 d4
      rcases b with _ | _
      · have HK := Lib.hid K7
        clear K7
        go_wp2
        go_roundw
        case rel => exact ⟨i + 1, v, os, by omega, by go_num, by omega, HK.out⟩
        case measure => simp [intOf]; omega
      · have HL := Lib.hid K7.low
        obtain ⟨d0, d1, d2, d3, d4⟩ := K7.G.five
        have c4 := K7.Y.cell 4
        have f4 := K7.Y.frozen 4
        have ho := K7.own
        go_wp2_with fail
        go_region_law (first
            | (go_simp; go_at_call 29; (with_reducible refine (l1Below_any g A n cap 3 _ (by omega) ?_).mono ?_); exact K7.cur; rintro e wa ⟨ya, ⟨hy0, hy1⟩, rfl, hca, hga⟩; have Ka := K7.draw hgl hgq (grown_of_drew hga) hca; have ca := Ka.Y.cell 4; have fa := Ka.Y.frozen 4; have oa := Ka.own; have hwa : IntKind.i64.wrap (1 + ya) = 1 + ya := IntWalk.i64_in _ (by omega))
            | (go_simp; go_at_call 29; (with_reducible refine (l1Below_any g A n cap 4 _ (by omega) ?_).mono ?_); exact Ka.cur; rintro e wb ⟨yb, ⟨hz0', hz1'⟩, rfl, hcb, hgb⟩; have Kb := Ka.draw hgl hgq hgb hcb; have cb := Kb.Y.cell 4; have fb := Kb.Y.frozen 4; have ob := Kb.own; have hsb := Kb.grw.size; have hvb := Kb.Y.lt)
            | (refine step_append_lies _ (by rfl) _ _ _ (by rfl) (w.heap.size + 3) 82 i0 _ 4 32 Tryz.underlying30 hi0 hz0 hz1 hz2 rfl (by omega) v os.length (flatO os) (by rfl) (ob.alloc _) ⟨wb.heap.size, 0, none⟩ 1 1 [.int .i64 (s + i), .int .i64 (1 + ya), .int .i64 (s + i), .int .i64 yb] (by rfl) (by rfl) (World.news_of_block (cs := #[.int .i64 (s + i), .int .i64 (1 + ya), .int .i64 (s + i), .int .i64 yb]) (t := 82) (fr := (0, 0)) (heap_alloc_new wb _)) (by simp [Value.oneCell']) (by omega) (by unfold maxLen; omega) (by omega) (by simp; omega) (wb.heap.size + 1) (by simp) ?_; intro gg cap2 wd hown2 hgrow2 hat hlt2; have gd := grown_trans (grown_bel (bel_alloc wb (.cells #[.int .i64 (s + i), .int .i64 (1 + ya), .int .i64 (s + i), .int .i64 yb] 82)) v.ownBlock) hgrow2; have bd := Kb.Y.kept gd (fun e => by have := HL.out _ e; omega); have cd := bd.cell 4; have fd := bd.frozen 4))
        all_goals
          have HK := Lib.hid (Kb.push (v' := .slice (some ⟨gg, 0, none⟩) (os.length + 1) cap2) (os' := os ++ [(s + i, 1 + ya, s + i, yb)]) hgl gd (by simpa [flatO_snoc] using hown2))
          clear K7 Ka Kb ca fa cb fb oa ob gd bd hown2 hgrow2 hca hga hcb hgb cd fd d0 d1 d2 d3 d4 c4 f4 ho
          go_wp2
          go_roundw
          case rel => exact ⟨i + 1, _, _, by omega, by go_num, by simp; omega, HK.out⟩
          case measure => simp [intOf]; omega
    · obtain ⟨A6, c6, rfl⟩ := own_form hK.own
      go_wp2_with fail
      refine (l1Once_any g A n cap 2 wr (by omega) hK.cur).mono ?_
      rintro e w2 ⟨b, rfl, hc2, hg2⟩
      have K7 := hK.draw hgl hgq hg2 hc2
      clear hK hc2 hg2 d0 d1 d2 d3 d4
      rcases b with _ | _
      · obtain ⟨x0, x1, x2, x3, x4⟩ := K7.X.five
        obtain ⟨y0, y1, y2, y3, y4⟩ := K7.Y.five
        have fx := K7.X.frozen
        have HP := Lib.hid (K7.fin hgl (by omega))
        clear K7
        go_wp2
        exact bodyPost_ret (v := .agg #[.int .i64 0, .int .i64 0, .int .i64 0, .slice none 0 0, .slice A6 os.length c6]) (by simp [results, Tryz.results65, go_sem, x0, x1, x2, x3, x4]) rfl (HP.out _ _ _ _ _)
      · obtain ⟨d0, d1, d2, d3, d4⟩ := K7.G.five
        go_upto_region 9 with fail
        go_cut [10] (fun y wr => ∃ (S : Nat) (ct cq : Int), y = .pointer (some ⟨S, 0, none⟩) ∧ w.heap.size + 1 + 1 < S ∧ Box wr S 28 #[.int .i64 ct, .int .i64 cq] ∧ RSt w wr g A n cap s l c sh q o m cap' zs (.slice A6 os.length c6) os)
        case first =>
          have hY := K7.Y.lt
          have HV : Hid (∀ b, (Value.slice A6 os.length c6).ownBlock = some b → b < w2.heap.size) := Lib.hid fun b e => (K7.own.lt b e).2
          have q1 : w2.heap.size ≠ w.heap.size := by omega
          go_wp2_with fail
          go_region_held3 (fun w' => w'.cell? ⟨w.heap.size, 0, none⟩ = some (.int .i64 s) ∧ w'.cell? ⟨w.heap.size, 2, none⟩ = some (.int .i64 c))
            (first | (with_reducible exact J9) | (with_reducible exact J8) | (with_reducible exact (And.intro ((K9.G.alloc _).cell 0) ((K9.G.alloc _).cell 2))) | (with_reducible exact (And.intro ((K8.G.alloc _).cell 0) ((K8.G.alloc _).cell 2))) | (with_reducible exact (And.intro ((K9.G.far2 q1 _ _).cell 0) ((K9.G.far2 q1 _ _).cell 2))) | (with_reducible exact (And.intro ((K9.G.far2 q2 _ _).cell 0) ((K9.G.far2 q2 _ _).cell 2))) | go_keep)
            (first
            | (go_at_call 29; (with_reducible refine (l1Below_any g A n cap 3 _ (by omega) ?_).mono ?_); (first | exact K7.cur | exact curNew K7.cur _); rintro e w3 ⟨r, ⟨hr0, hr1⟩, rfl, hc3, hg3⟩; (first | (have B3 := gbox_of_alloc (grown_of_drew hg3) (by omega); have F3 := grown_of_alloc (grown_of_drew hg3)) | have F3 := grown_of_drew hg3); have K8 := K7.draw hgl hgq F3 hc3; have J8 := And.intro (K8.G.cell 0) (K8.G.cell 2); have l3 := F3.size; have q2 : w3.heap.size ≠ w.heap.size := (by omega); have hw : IntKind.i64.wrap (1 + r) = 1 + r := IntWalk.i64_in _ (by omega))
            | (go_at_call 29; (with_reducible refine (l1Below_any g A n cap c _ (by omega) ?_).mono ?_); (first | exact hc3 | exact curNew hc3 _); rintro e w4 ⟨r2, ⟨hs0', hs1'⟩, rfl, hc4, hg4⟩; (first | (have B4 := gbox_of_alloc hg4 (by omega); have F4 := grown_of_alloc hg4) | (have B4 := B3.kept hg4 (by intro e; injection e with e; omega); have F4 := hg4) | have F4 := hg4); have K9 := K8.draw hgl hgq F4 hc4; have J9 := And.intro (K9.G.cell 0) (K9.G.cell 2); have l4 := F4.size; (first | (obtain ⟨b0, b1⟩ := B4.two; have fb := B4.frozen) | skip); have hw2 : IntKind.i64.wrap (s + r2) = s + r2 := IntWalk.i64_in _ (by omega)))
          all_goals go_wp2_with fail
          all_goals go_meet
          all_goals first
            | (have B' : Box w4 w3.heap.size 28 _ := (by with_reducible exact B4); exact ⟨_, _, _, rfl, by omega, B'.put2 _ _, (K9.far hgl (S := w3.heap.size) (by omega) (fun b e => by have := HV.out b e; omega) 0 _).far hgl (S := w3.heap.size) (by omega) (fun b e => by have := HV.out b e; omega) 1 _⟩)
            | (have B' : Box w4 w2.heap.size 28 _ := (by with_reducible exact B4); exact ⟨_, _, _, rfl, by omega, B'.put2 _ _, (K9.far hgl (S := w2.heap.size) (by omega) (fun b e => by have := HV.out b e; omega) 0 _).far hgl (S := w2.heap.size) (by omega) (fun b e => by have := HV.out b e; omega) 1 _⟩)
            | exact ⟨_, _, _, rfl, by have := K9.Y.lt; omega, Box.new w4 _ _, K9.later (bel_alloc _ _)⟩
        case rest =>
          obtain ⟨S, ct, cq, rfl, hS, T8, K8⟩ := hcut
          obtain ⟨w4, rfl⟩ : ∃ x, x = wc := ⟨_, rfl⟩
          clear K7
          go_wp2_with fail
          refine (l1Below_any g A n cap 4 w4 (by omega) K8.cur).mono ?_
          rintro e w5 ⟨v5, ⟨_, _⟩, rfl, hc5, hg5⟩
          have K9 := K8.draw hgl hgq hg5 hc5
          have T9 := T8.kept hg5 (by intro e; injection e with e; omega)
          clear K8 T8 hc5 hg5
          obtain ⟨d0, d1, d2, d3, d4⟩ := K9.G.five
          obtain ⟨t0, t1⟩ := T9.two
          obtain ⟨y0, y1, y2, y3, y4⟩ := K9.Y.five
          have fy := K9.Y.frozen
          go_wp2_with fail
          refine wp_region_sink 15 (fun w' => (w'.cell? ⟨w.heap.size, 0, none⟩ = some (.int .i64 s) ∧ w'.cell? ⟨w.heap.size, 1, none⟩ = some (.int .i64 l) ∧ w'.cell? ⟨w.heap.size, 2, none⟩ = some (.int .i64 c) ∧ w'.cell? ⟨w.heap.size, 3, none⟩ = some (.int .i64 sh) ∧ w'.cell? ⟨w.heap.size, 4, none⟩ = some (.slice (some ⟨q, o, none⟩) m cap')) ∧ (w'.cell? ⟨S, 0, none⟩ = some (.int .i64 ct) ∧ w'.cell? ⟨S, 1, none⟩ = some (.int .i64 cq)) ∧ (w'.cell? ⟨w.heap.size + 1 + 1, 0, none⟩ = some (.int .i64 0) ∧ w'.cell? ⟨w.heap.size + 1 + 1, 1, none⟩ = some (.int .i64 0) ∧ w'.cell? ⟨w.heap.size + 1 + 1, 2, none⟩ = some (.int .i64 0) ∧ w'.cell? ⟨w.heap.size + 1 + 1, 3, none⟩ = some (.slice none 0 0) ∧ w'.cell? ⟨w.heap.size + 1 + 1, 4, none⟩ = some (.slice A6 os.length c6))) (by kernel_rfl) ⟨K9.G.five, T9.two, K9.Y.five⟩ (fun hH => ?_)
          refine wpAnyE_take (i := 0) (v := ?v0) (by simp only [List.getElem?_toArray, List.getElem?_cons_zero]; rfl) (by kernel_rfl) (by kernel_rfl) (by kernel_rfl) (by exact fun _ _ _ h => h) (by kernel_rfl) (Or.inl ⟨by rfl, ?y0⟩) hH ?r0
          case y0 => (intro w' hSw; (try dsimp only at hSw); go_simp; with_reducible rfl)
          try simp only [Act.put, List.setIfInBounds_toArray, List.set_cons_zero, List.set_cons_succ]
          refine wpAnyE_take (i := 1) (v := ?v1) (by simp only [List.getElem?_toArray, List.getElem?_cons_succ, List.getElem?_cons_zero]; rfl) (by kernel_rfl) (by kernel_rfl) (by kernel_rfl) (by exact fun _ _ _ h => h) (by kernel_rfl) (Or.inl ⟨by rfl, ?y1⟩) hH ?r1
          case y1 => (intro w' hSw; (try dsimp only at hSw); go_simp; with_reducible rfl)
          try simp only [Act.put, List.setIfInBounds_toArray, List.set_cons_zero, List.set_cons_succ]
          refine wpAnyE_take (i := 2) (v := ?v2) (by simp only [List.getElem?_toArray, List.getElem?_cons_succ, List.getElem?_cons_zero]; rfl) (by kernel_rfl) (by kernel_rfl) (by kernel_rfl) (by exact fun _ _ _ h => h) (by kernel_rfl) (Or.inl ⟨by rfl, ?y2⟩) hH ?r2
          case y2 => (intro w' hSw; (try dsimp only at hSw); go_simp; with_reducible rfl)
          try simp only [Act.put, List.setIfInBounds_toArray, List.set_cons_zero, List.set_cons_succ]
          refine wpAnyE_take (i := 3) (v := ?v3) (by simp only [List.getElem?_toArray, List.getElem?_cons_succ, List.getElem?_cons_zero]; rfl) (by kernel_rfl) (by kernel_rfl) (by kernel_rfl) (by exact fun _ _ _ h => h) (by kernel_rfl) (Or.inl ⟨by rfl, ?y3⟩) hH ?r3
          case y3 => (intro w' hSw; (try dsimp only at hSw); go_simp; with_reducible rfl)
          try simp only [Act.put, List.setIfInBounds_toArray, List.set_cons_zero, List.set_cons_succ]
          refine wpAnyE_take (i := 4) (v := ?v4) (by simp only [List.getElem?_toArray, List.getElem?_cons_succ, List.getElem?_cons_zero]; rfl) (by kernel_rfl) (by kernel_rfl) (by kernel_rfl) (by exact fun _ _ _ h => h) (by kernel_rfl) (Or.inl ⟨by rfl, ?y4⟩) hH ?r4
          case y4 => (intro w' hSw; (try dsimp only at hSw); go_simp; with_reducible rfl)
          try simp only [Act.put, List.setIfInBounds_toArray, List.set_cons_zero, List.set_cons_succ]
          refine wpAnyE_take (i := 5) (v := ?v5) (by simp only [List.getElem?_toArray, List.getElem?_cons_succ, List.getElem?_cons_zero]; rfl) (by kernel_rfl) (by kernel_rfl) (by kernel_rfl) (by exact fun _ _ _ h => h) (by kernel_rfl) (Or.inl ⟨by rfl, ?y5⟩) hH ?r5
          case y5 => (intro w' hSw; (try dsimp only at hSw); go_simp; with_reducible rfl)
          try simp only [Act.put, List.setIfInBounds_toArray, List.set_cons_zero, List.set_cons_succ]
          refine wpAnyE_take (i := 6) (v := ?v6) (by simp only [List.getElem?_toArray, List.getElem?_cons_succ, List.getElem?_cons_zero]; rfl) (by kernel_rfl) (by kernel_rfl) (by kernel_rfl) (by exact fun _ _ _ h => h) (by kernel_rfl) (Or.inl ⟨by rfl, ?y6⟩) hH ?r6
          case y6 => (intro w' hSw; (try dsimp only at hSw); go_simp; with_reducible rfl)
          try simp only [Act.put, List.setIfInBounds_toArray, List.set_cons_zero, List.set_cons_succ]
          refine wpAnyE_take (i := 7) (v := ?v7) (by simp only [List.getElem?_toArray, List.getElem?_cons_succ, List.getElem?_cons_zero]; rfl) (by kernel_rfl) (by kernel_rfl) (by kernel_rfl) (by exact fun _ _ _ h => h) (by kernel_rfl) (Or.inl ⟨by rfl, ?y7⟩) hH ?r7
          case y7 => (intro w' hSw; (try dsimp only at hSw); go_simp; with_reducible rfl)
          try simp only [Act.put, List.setIfInBounds_toArray, List.set_cons_zero, List.set_cons_succ]
          refine wpAnyE_take (i := 8) (v := ?v8) (by simp only [List.getElem?_toArray, List.getElem?_cons_succ, List.getElem?_cons_zero]; rfl) (by kernel_rfl) (by kernel_rfl) (by kernel_rfl) (by exact fun _ _ _ h => h) (by kernel_rfl) (Or.inl ⟨by rfl, ?y8⟩) hH ?r8
          case y8 => (intro w' hSw; (try dsimp only at hSw); go_simp; with_reducible rfl)
          try simp only [Act.put, List.setIfInBounds_toArray, List.set_cons_zero, List.set_cons_succ]
          refine wpAnyE_one (i := 9) (by kernel_rfl) (by simp only [List.getElem?_toArray, List.getElem?_cons_succ, List.getElem?_cons_zero]; rfl) (fun K hK => ?_)
          go_simp
          refine (l4Ready_is x ct cq v5 _).mono ?_
          rintro e w6 ⟨rfl, hb6⟩
          have E6 := (bel_drew (Below.refl w5.heap.size w5)).trans hb6
          have K10 := K9.later E6
          have T10 := T9.later E6 T9.lt
          clear hH
          refine hK.out _ _ ⟨K10.G.five, T10.two, K10.Y.five⟩ (fun hH => ?_)
          clear hK K
          try simp only [Act.put, List.setIfInBounds_toArray, List.set_cons_zero, List.set_cons_succ]
          refine wpAnyE_one (i := 10) (by kernel_rfl) (by simp only [List.getElem?_toArray, List.getElem?_cons_succ, List.getElem?_cons_zero]; rfl) (fun K hK => ?_)
          go_simp
          refine (l4Cert_any s l c sh (some ⟨q, o, none⟩) m cap' zs 1 x ct cq v5 _ HM.out (K10.row.more K10.grw.size)).mono ?_
          rintro e w7 ⟨p7, c7, ps7, rfl, o7, h7, hb7⟩
          have K11 := K10.later hb7
          have T11 := T10.later hb7 T10.lt
          clear hH
          refine hK.out _ _ ⟨K11.G.five, T11.two, K11.Y.five⟩ (fun hH => ?_)
          clear hK K
          try simp only [Act.put, List.setIfInBounds_toArray, List.set_cons_zero, List.set_cons_succ]
          refine wpAnyE_one (i := 11) (by kernel_rfl) (by simp only [List.getElem?_toArray, List.getElem?_cons_succ, List.getElem?_cons_zero]; rfl) (fun K hK => ?_)
          go_simp
          refine (l7Write_own s l c sh (some ⟨q, o, none⟩) m cap' zs x 0 0 0 none 0 0 A6 os.length c6 ct cq v5 (some ⟨p7, 0, none⟩) ps7.length c7 [] os ps7 _ HM.out (K11.row.more K11.grw.size) (by simp) (by omega) (Or.inl ⟨rfl, rfl⟩) (own_slcQ K11.own) (by omega) (own_pairs o7)).mono ?_
          rintro e w8 ⟨a8, b8, d8, f8, g1, c1, g2, c2, D8, rfl, hD8, hne8, o81, o82, hb8⟩
          have K12 := K11.later hb8
          have T12 := T11.later hb8 T11.lt
          clear hH
          refine hK.out _ _ ⟨K12.G.five, T12.two, K12.Y.five⟩ (fun hH => ?_)
          clear hK K
          try simp only [Act.put, List.setIfInBounds_toArray, List.set_cons_zero, List.set_cons_succ]
          refine wpAnyE_take (i := 12) (v := ?v12) (by simp only [List.getElem?_toArray, List.getElem?_cons_succ, List.getElem?_cons_zero]; rfl) (by kernel_rfl) (by kernel_rfl) (by kernel_rfl) (by exact fun _ _ _ h => h) (by kernel_rfl) (Or.inl ⟨by rfl, ?y12⟩) hH ?r12
          case y12 => (intro w' hSw; (try dsimp only at hSw); go_simp; with_reducible rfl)
          try simp only [Act.put, List.setIfInBounds_toArray, List.set_cons_zero, List.set_cons_succ]
          refine wpAnyE_take (i := 13) (v := ?v13) (by simp only [List.getElem?_toArray, List.getElem?_cons_succ, List.getElem?_cons_zero]; rfl) (by kernel_rfl) (by kernel_rfl) (by kernel_rfl) (by exact fun _ _ _ h => h) (by kernel_rfl) (Or.inl ⟨by rfl, ?y13⟩) hH ?r13
          case y13 => (intro w' hSw; (try dsimp only at hSw); go_simp; with_reducible rfl)
          try simp only [Act.put, List.setIfInBounds_toArray, List.set_cons_zero, List.set_cons_succ]
          refine wpAnyE_pure (i := 14) (v := ?v14) (by simp only [List.getElem?_toArray, List.getElem?_cons_succ, List.getElem?_cons_zero]; rfl) (by kernel_rfl) (by kernel_rfl) (by kernel_rfl) (by exact fun _ _ _ h => h) (by kernel_rfl) (Or.inl ⟨by rfl, ?y14⟩) hH ?r14
          case y14 => (intro w' hSw; go_simp; with_reducible rfl)
          try simp only [Act.put, List.setIfInBounds_toArray, List.set_cons_zero, List.set_cons_succ]
          have fz := K12.Y.frozen
          obtain ⟨z0, z1, z2, z3, z4⟩ := K12.Y.five
          refine wpAnyE_last (by kernel_rfl) (by simp only [List.getElem?_toArray, List.getElem?_cons_succ, List.getElem?_cons_zero]; rfl) (by kernel_rfl) (fun K hK => ?_)
          go_simp
          refine hK.out _ _ ?_
          clear hK K
          try simp only [Act.put, List.setIfInBounds_toArray, List.set_cons_zero, List.set_cons_succ]
          obtain ⟨x0, x1, x2, x3, x4⟩ := K12.X.five
          have fx := K12.X.frozen
          have HP := Lib.hid (K10.fin2 (a := a8) (b := b8) (d := d8) hgl (by omega) hD8 hne8 hb7 hb8 o81 o82)
          clear K9 K10 K11 K12 T9 T10 T11 T12 o81 o82 o7 hb7 hb8 hb6 E6 d0 d1 d2 d3 d4 t0 t1 y0 y1 y2 y3 y4 hH
          go_wp2
          exact bodyPost_ret (v := .agg #[.int .i64 a8, .int .i64 b8, .int .i64 d8, .slice (some ⟨g1, 0, none⟩) D8.length c1, .slice (some ⟨g2, 0, none⟩) os.length c2]) (by simp [results, Tryz.results65, go_sem, x0, x1, x2, x3, x4]) rfl (HP.out _ _ _ _ _ _ _ _ _ _)

end Go.Proofs.YtghdnokjgmmgiaaGreat
