/- The model's l7Draw: a shelf of a group, right, its lists one's own. -/
import Derived.Test.YtjdepjpjjgkmbaaGreatDrawReg2
import Derived.Test.YtjdepjpjjgkmbaaGreatSink
namespace Go.Proofs.YtjdepjpjjgkmbaaGreat
open Go.RowKit Go.Deep

theorem own_slcQ {w : World} {base : Nat} {t : TypeId} {v : Value} {os : List Opn} (h : w.ownsRow base t 4 v os.length (flatO os)) : SlcQ w v os := by
  rcases h.2 with ⟨e, h0⟩ | ⟨g, cap, cur, e, hb, hg, h1, h2, h3, h4⟩
  · exact .inl ⟨e, List.eq_nil_of_length_eq_zero h0⟩
  · subst e
    exact .inr ⟨g, 0, _, cap, rfl, h1, h2, own_quads h⟩
theorem own_slcP {w : World} {base : Nat} {t : TypeId} {v : Value} {ps : List (Int × Int)} (h : w.ownsRow base t 2 v ps.length (flatP ps)) : Slc w v ps := by
  rcases h.2 with ⟨e, h0⟩ | ⟨g, cap, cur, e, hb, hg, h1, h2, h3, h4⟩
  · exact .inl ⟨e, List.eq_nil_of_length_eq_zero h0⟩
  · subst e
    exact .inr ⟨g, 0, _, cap, rfl, own_pairs h⟩
theorem RSt.fin2 {w wr w7 w8 : World} {g : Nat} {A : Option Addr} {n cap : Nat} {s l c sh : Int} {q o m cap' : Nat} {zs : List Int} {v : Value} {os : List Opn} {a b d : Int} {g1 c1 g2 c2 : Nat} {D : List (Int × Int)} (h : RSt w wr g A n cap s l c sh q o m cap' zs v os) (hgl : g < w.heap.size) (hol : os.length ≤ 6) (hD : D = [] ∨ D.length ≤ 20) (hne : g1 ≠ g2) (hb : Below wr.heap.size wr w7) (hb8 : Below w7.heap.size w7 w8)
    (o1 : w8.ownsRow w7.heap.size 136 2 (.slice (some ⟨g1, 0, none⟩) D.length c1) D.length (flatP D)) (o2 : w8.ownsRow w7.heap.size 97 4 (.slice (some ⟨g2, 0, none⟩) os.length c2) os.length (flatO os)) (y0 y1 y2 y3 y4 x0 x1 x2 x3 x4 : Value) :
    DrawnReg g A n cap w (.returned (.agg #[.int .i64 a, .int .i64 b, .int .i64 d, .slice (some ⟨g1, 0, none⟩) D.length c1, .slice (some ⟨g2, 0, none⟩) os.length c2])) ((((((((((w8.setCell ⟨w.heap.size + 1 + 1, 0, none⟩ y0).setCell ⟨w.heap.size + 1 + 1, 1, none⟩ y1).setCell ⟨w.heap.size + 1 + 1, 2, none⟩ y2).setCell ⟨w.heap.size + 1 + 1, 3, none⟩ y3).setCell ⟨w.heap.size + 1 + 1, 4, none⟩ y4).setCell ⟨w.heap.size + 1, 0, none⟩ x0).setCell ⟨w.heap.size + 1, 1, none⟩ x1).setCell ⟨w.heap.size + 1, 2, none⟩ x2).setCell ⟨w.heap.size + 1, 3, none⟩ x3).setCell ⟨w.heap.size + 1, 4, none⟩ x4) := by
  have h8 := h.later (bel_trans hb hb8)
  have hy := h.Y.lt
  have hs := hb.size
  have gy := grown5 w8 (w.heap.size + 1 + 1) y0 y1 y2 y3 y4
  have gx := grown5 (((((w8.setCell ⟨w.heap.size + 1 + 1, 0, none⟩ y0).setCell ⟨w.heap.size + 1 + 1, 1, none⟩ y1).setCell ⟨w.heap.size + 1 + 1, 2, none⟩ y2).setCell ⟨w.heap.size + 1 + 1, 3, none⟩ y3).setCell ⟨w.heap.size + 1 + 1, 4, none⟩ y4) (w.heap.size + 1) x0 x1 x2 x3 x4
  have l1 := (o1.lt g1 rfl).1
  have l2 := (o2.lt g2 rfl).1
  refine ⟨a, b, d, _, _, D, os, rfl, ?_, hol, ownLow ((o1.kept gy (.inr ?_)).kept gx (.inr ?_)) (by omega), ownLow ((o2.kept gy (.inr ?_)).kept gx (.inr ?_)) (by omega), .inr ?_, (h8.cur.kept gy ?_).kept gx ?_, grown_far (grown_far h8.grw gy ?_) gx ?_⟩
  · rcases hD with rfl | hD
    · simp
    · exact hD
  · intro e; injection e with e; simp at e; omega
  · intro e; injection e with e; simp at e; omega
  · intro e; injection e with e; simp at e; omega
  · intro e; injection e with e; simp at e; omega
  · intro e; injection e with e; simp at e; omega
  · intro k hk; injection hk with hk; omega
  · intro k hk; injection hk with hk; omega
  · intro k hk; injection hk with hk; omega
  · intro k hk; injection hk with hk; omega

set_option maxRecDepth 100000 in
set_option maxHeartbeats 4000000 in
theorem l7Draw_any (g : Nat) (A : Option Addr) (n cap : Nat) (s l c sh : Int) (q o m cap' : Nat) (zs : List Int) (x : Int) (w : World) (hm : m ≤ maxLen) (hc1 : 1 ≤ c) (hc6 : c ≤ 6) (hs0 : 0 ≤ s) (hs9 : s ≤ 10) (hc : Cur w 169 .i64 g A n cap) (hr : Row w w.heap.size (some ⟨q, o, none⟩) m zs) (hgq : g ≠ q) :
    Calls Tryz.prog 163 #[.pointer (some ⟨g, 0, none⟩), .agg #[.int .i64 s, .int .i64 l, .int .i64 c, .int .i64 sh, .slice (some ⟨q, o, none⟩) m cap'], .int .i64 x] w (DrawnReg g A n cap w) := by
  obtain ⟨i0, hi0, hz0, hz1, hz2⟩ := info_parts Tryz.infoOpen
  have hgl := hc.lt
  have K0 : RSt w (((w.alloc (.cells #[.int .i64 s, .int .i64 l, .int .i64 c, .int .i64 sh, .slice (some ⟨q, o, none⟩) m cap'] 26)).alloc (.cells #[.int .i64 0, .int .i64 0, .int .i64 0, .slice none 0 0, .slice none 0 0] 80)).alloc (.cells #[.int .i64 0, .int .i64 0, .int .i64 0, .slice none 0 0, .slice none 0 0] 80)) g A n cap s l c sh q o m cap' zs (.slice none 0 0) [] := by
    have E := bel_trans (bel_trans (bel_alloc w (.cells #[.int .i64 s, .int .i64 l, .int .i64 c, .int .i64 sh, .slice (some ⟨q, o, none⟩) m cap'] 26)) (bel_alloc _ (.cells #[.int .i64 0, .int .i64 0, .int .i64 0, .slice none 0 0, .slice none 0 0] 80))) (bel_alloc _ (.cells #[.int .i64 0, .int .i64 0, .int .i64 0, .slice none 0 0, .slice none 0 0] 80))
    refine ⟨hc.kept (grown_bel E none) (fun q hq => by cases hq), grown_bel E _, ((Box.new w _ _).alloc _).alloc _, ?_, ?_, ⟨rfl, .inl ⟨rfl, rfl⟩⟩, hr.below E (Nat.le_refl _)⟩
    · have := (Box.new (w.alloc (.cells #[.int .i64 s, .int .i64 l, .int .i64 c, .int .i64 sh, .slice (some ⟨q, o, none⟩) m cap'] 26)) 80 #[.int .i64 0, .int .i64 0, .int .i64 0, .slice none 0 0, .slice none 0 0]).alloc (.cells #[.int .i64 0, .int .i64 0, .int .i64 0, .slice none 0 0, .slice none 0 0] 80)
      simp only [World.size_alloc] at this
      exact this
    · have := Box.new ((w.alloc (.cells #[.int .i64 s, .int .i64 l, .int .i64 c, .int .i64 sh, .slice (some ⟨q, o, none⟩) m cap'] 26)).alloc (.cells #[.int .i64 0, .int .i64 0, .int .i64 0, .slice none 0 0, .slice none 0 0] 80)) 80 #[.int .i64 0, .int .i64 0, .int .i64 0, .slice none 0 0, .slice none 0 0]
      simp only [World.size_alloc] at this
      exact this
  have HM := Lib.hid hm
  clear hr hm hc
  go_enter Tryz.func163, Tryz.ntmps163
  go_wp2_with fail
  generalize (((w.alloc _).alloc _).alloc _ : World) = w1 at K0 ⊢
  go_loopw [8] (fun iv wr => ∃ (i : Nat) (v : Value) (os : List Opn), i ≤ 6 ∧ iv = .int .i64 i ∧ os.length ≤ i ∧ RSt w wr g A n cap s l c sh q o m cap' zs v os) (fun i _ => 6 - (intOf i).toNat)
  case atStart => exact ⟨0, _, [], by omega, rfl, by simp, K0⟩
  case round =>
    obtain ⟨i, v, os, hi, rfl, hol, hK⟩ := hrel
    clear K0
    obtain ⟨d0, d1, d2, d3, d4⟩ := hK.G.five
    by_cases hlt : (i : Int) < c
    · have hi6 : i < 6 := by omega
      go_wp2_with fail
      refine (l1Once_any g A n cap 2 wr (by omega) hK.cur).mono ?_
      rintro e w2 ⟨b, rfl, hc2, hg2⟩
      have K7 := hK.draw hgl hgq hg2 hc2
      clear hK hc2 hg2 d0 d1 d2 d3 d4
      rcases b with _ | _
      · have HK := Lib.hid K7
        clear K7
        go_wp2
        go_roundw
        case rel => exact ⟨i + 1, v, os, by omega, by go_num, by omega, HK.out⟩
        case measure => simp [intOf]; omega
      · have HL := Lib.hid K7.low
        obtain ⟨d0, d1, d2, d3, d4⟩ := K7.G.five
        have c4 := K7.Y.cell 4
        have f4 := K7.Y.frozen 4
        have ho := K7.own
        go_wp2_with fail
        go_region_law (first
            | (go_simp; go_at_call 67; (with_reducible refine (l1Below_any g A n cap 3 _ (by omega) ?_).mono ?_); exact K7.cur; rintro e wa ⟨ya, ⟨hy0, hy1⟩, rfl, hca, hga⟩; have Ka := K7.draw hgl hgq (grown_of_drew hga) hca; have ca := Ka.Y.cell 4; have fa := Ka.Y.frozen 4; have oa := Ka.own; have hwa : IntKind.i64.wrap (1 + ya) = 1 + ya := IntWalk.i64_in _ (by omega))
            | (go_simp; go_at_call 67; (with_reducible refine (l1Below_any g A n cap 4 _ (by omega) ?_).mono ?_); exact Ka.cur; rintro e wb ⟨yb, ⟨hz0', hz1'⟩, rfl, hcb, hgb⟩; have Kb := Ka.draw hgl hgq hgb hcb; have cb := Kb.Y.cell 4; have fb := Kb.Y.frozen 4; have ob := Kb.own; have hsb := Kb.grw.size; have hvb := Kb.Y.lt)
            | (refine step_append_lies _ (by rfl) _ _ _ (by rfl) (w.heap.size + 3) 97 i0 _ 4 32 Tryz.underlying78 hi0 hz0 hz1 hz2 rfl (by omega) v os.length (flatO os) (by rfl) (ob.alloc _) ⟨wb.heap.size, 0, none⟩ 1 1 [.int .i64 (s + i), .int .i64 (1 + ya), .int .i64 (s + i), .int .i64 yb] (by rfl) (by rfl) (World.news_of_block (cs := #[.int .i64 (s + i), .int .i64 (1 + ya), .int .i64 (s + i), .int .i64 yb]) (t := 97) (fr := (0, 0)) (heap_alloc_new wb _)) (by simp [Value.oneCell']) (by omega) (by unfold maxLen; omega) (by omega) (by simp; omega) (wb.heap.size + 1) (by simp) ?_; intro gg cap2 wd hown2 hgrow2 hat hlt2; have gd := grown_trans (grown_bel (bel_alloc wb (.cells #[.int .i64 (s + i), .int .i64 (1 + ya), .int .i64 (s + i), .int .i64 yb] 97)) v.ownBlock) hgrow2; have bd := Kb.Y.kept gd (fun e => by have := HL.out _ e; omega); have cd := bd.cell 4; have fd := bd.frozen 4))
        all_goals
          have HK := Lib.hid (Kb.push (v' := .slice (some ⟨gg, 0, none⟩) (os.length + 1) cap2) (os' := os ++ [(s + i, 1 + ya, s + i, yb)]) hgl gd (by simpa [flatO_snoc] using hown2))
          clear K7 Ka Kb ca fa cb fb oa ob gd bd hown2 hgrow2 hca hga hcb hgb cd fd d0 d1 d2 d3 d4 c4 f4 ho
          go_wp2
          go_roundw
          case rel => exact ⟨i + 1, _, _, by omega, by go_num, by simp; omega, HK.out⟩
          case measure => simp [intOf]; omega
    · obtain ⟨A6, c6, rfl⟩ := own_form hK.own
      go_wp2_with fail
      refine (l1Once_any g A n cap 2 wr (by omega) hK.cur).mono ?_
      rintro e w2 ⟨b, rfl, hc2, hg2⟩
      have K7 := hK.draw hgl hgq hg2 hc2
      clear hK hc2 hg2 d0 d1 d2 d3 d4
      rcases b with _ | _
      · obtain ⟨x0, x1, x2, x3, x4⟩ := K7.X.five
        obtain ⟨y0, y1, y2, y3, y4⟩ := K7.Y.five
        have fx := K7.X.frozen
        have HP := Lib.hid (K7.fin hgl (by omega))
        clear K7
        go_wp2
        exact bodyPost_ret (v := .agg #[.int .i64 0, .int .i64 0, .int .i64 0, .slice none 0 0, .slice A6 os.length c6]) (by simp [results, Tryz.results163, go_sem, x0, x1, x2, x3, x4]) rfl (HP.out _ _ _ _ _)
      · obtain ⟨d0, d1, d2, d3, d4⟩ := K7.G.five
        go_upto_region 9 with fail
        go_cut [10] (fun y wr => ∃ (S : Nat) (ct cq : Int), y = .pointer (some ⟨S, 0, none⟩) ∧ w.heap.size + 1 + 1 < S ∧ Box wr S 39 #[.int .i64 ct, .int .i64 cq] ∧ RSt w wr g A n cap s l c sh q o m cap' zs (.slice A6 os.length c6) os)
        case first =>
          have hY := K7.Y.lt
          have HV : Hid (∀ b, (Value.slice A6 os.length c6).ownBlock = some b → b < w2.heap.size) := Lib.hid fun b e => (K7.own.lt b e).2
          have q1 : w2.heap.size ≠ w.heap.size := by omega
          go_wp2_with fail
          go_region_held3 (fun w' => w'.cell? ⟨w.heap.size, 0, none⟩ = some (.int .i64 s) ∧ w'.cell? ⟨w.heap.size, 2, none⟩ = some (.int .i64 c))
            (first | (with_reducible exact J9) | (with_reducible exact J8) | (with_reducible exact (And.intro ((K9.G.alloc _).cell 0) ((K9.G.alloc _).cell 2))) | (with_reducible exact (And.intro ((K8.G.alloc _).cell 0) ((K8.G.alloc _).cell 2))) | (with_reducible exact (And.intro ((K9.G.far2 q1 _ _).cell 0) ((K9.G.far2 q1 _ _).cell 2))) | (with_reducible exact (And.intro ((K9.G.far2 q2 _ _).cell 0) ((K9.G.far2 q2 _ _).cell 2))) | go_keep)
            (first
            | (go_at_call 67; (with_reducible refine (l1Below_any g A n cap 3 _ (by omega) ?_).mono ?_); (first | exact K7.cur | exact curNew K7.cur _); rintro e w3 ⟨r, ⟨hr0, hr1⟩, rfl, hc3, hg3⟩; (first | (have B3 := gbox_of_alloc (grown_of_drew hg3) (by omega); have F3 := grown_of_alloc (grown_of_drew hg3)) | have F3 := grown_of_drew hg3); have K8 := K7.draw hgl hgq F3 hc3; have J8 := And.intro (K8.G.cell 0) (K8.G.cell 2); have l3 := F3.size; have q2 : w3.heap.size ≠ w.heap.size := (by omega); have hw : IntKind.i64.wrap (1 + r) = 1 + r := IntWalk.i64_in _ (by omega))
            | (go_at_call 67; (with_reducible refine (l1Below_any g A n cap c _ (by omega) ?_).mono ?_); (first | exact hc3 | exact curNew hc3 _); rintro e w4 ⟨r2, ⟨hs0', hs1'⟩, rfl, hc4, hg4⟩; (first | (have B4 := gbox_of_alloc hg4 (by omega); have F4 := grown_of_alloc hg4) | (have B4 := B3.kept hg4 (by intro e; injection e with e; omega); have F4 := hg4) | have F4 := hg4); have K9 := K8.draw hgl hgq F4 hc4; have J9 := And.intro (K9.G.cell 0) (K9.G.cell 2); have l4 := F4.size; (first | (obtain ⟨b0, b1⟩ := B4.two; have fb := B4.frozen) | skip); have hw2 : IntKind.i64.wrap (s + r2) = s + r2 := IntWalk.i64_in _ (by omega)))
          all_goals go_wp2_with fail
          all_goals go_meet
          all_goals first
            | (have B' : Box w4 w3.heap.size 39 _ := (by with_reducible exact B4); exact ⟨_, _, _, rfl, by omega, B'.put2 _ _, (K9.far hgl (S := w3.heap.size) (by omega) (fun b e => by have := HV.out b e; omega) 0 _).far hgl (S := w3.heap.size) (by omega) (fun b e => by have := HV.out b e; omega) 1 _⟩)
            | (have B' : Box w4 w2.heap.size 39 _ := (by with_reducible exact B4); exact ⟨_, _, _, rfl, by omega, B'.put2 _ _, (K9.far hgl (S := w2.heap.size) (by omega) (fun b e => by have := HV.out b e; omega) 0 _).far hgl (S := w2.heap.size) (by omega) (fun b e => by have := HV.out b e; omega) 1 _⟩)
            | exact ⟨_, _, _, rfl, by have := K9.Y.lt; omega, Box.new w4 _ _, K9.later (bel_alloc _ _)⟩
        case rest =>
          obtain ⟨S, ct, cq, rfl, hS, T8, K8⟩ := hcut
          obtain ⟨w4, rfl⟩ : ∃ x, x = wc := ⟨_, rfl⟩
          clear K7
          go_wp2_with fail
          refine (l1Below_any g A n cap 4 w4 (by omega) K8.cur).mono ?_
          rintro e w5 ⟨v5, ⟨_, _⟩, rfl, hc5, hg5⟩
          have K9 := K8.draw hgl hgq hg5 hc5
          have T9 := T8.kept hg5 (by intro e; injection e with e; omega)
          clear K8 T8 hc5 hg5
          obtain ⟨d0, d1, d2, d3, d4⟩ := K9.G.five
          obtain ⟨t0, t1⟩ := T9.two
          obtain ⟨y0, y1, y2, y3, y4⟩ := K9.Y.five
          have fy := K9.Y.frozen
          go_wp2_with fail
          refine wp_region_sink 15 (fun w' => (w'.cell? ⟨w.heap.size, 0, none⟩ = some (.int .i64 s) ∧ w'.cell? ⟨w.heap.size, 1, none⟩ = some (.int .i64 l) ∧ w'.cell? ⟨w.heap.size, 2, none⟩ = some (.int .i64 c) ∧ w'.cell? ⟨w.heap.size, 3, none⟩ = some (.int .i64 sh) ∧ w'.cell? ⟨w.heap.size, 4, none⟩ = some (.slice (some ⟨q, o, none⟩) m cap')) ∧ (w'.cell? ⟨S, 0, none⟩ = some (.int .i64 ct) ∧ w'.cell? ⟨S, 1, none⟩ = some (.int .i64 cq)) ∧ (w'.cell? ⟨w.heap.size + 1 + 1, 0, none⟩ = some (.int .i64 0) ∧ w'.cell? ⟨w.heap.size + 1 + 1, 1, none⟩ = some (.int .i64 0) ∧ w'.cell? ⟨w.heap.size + 1 + 1, 2, none⟩ = some (.int .i64 0) ∧ w'.cell? ⟨w.heap.size + 1 + 1, 3, none⟩ = some (.slice none 0 0) ∧ w'.cell? ⟨w.heap.size + 1 + 1, 4, none⟩ = some (.slice A6 os.length c6))) (by kernel_rfl) ⟨K9.G.five, T9.two, K9.Y.five⟩ (fun hH => ?_)
          refine wpAnyE_take (i := 0) (v := ?v0) (by simp only [List.getElem?_toArray, List.getElem?_cons_zero]; rfl) (by kernel_rfl) (by kernel_rfl) (by kernel_rfl) (by exact fun _ _ _ h => h) (by kernel_rfl) (Or.inl ⟨by rfl, ?y0⟩) hH ?r0
          case y0 => (intro w' hSw; (try dsimp only at hSw); go_simp; with_reducible rfl)
          try simp only [Act.put, List.setIfInBounds_toArray, List.set_cons_zero, List.set_cons_succ]
          refine wpAnyE_take (i := 1) (v := ?v1) (by simp only [List.getElem?_toArray, List.getElem?_cons_succ, List.getElem?_cons_zero]; rfl) (by kernel_rfl) (by kernel_rfl) (by kernel_rfl) (by exact fun _ _ _ h => h) (by kernel_rfl) (Or.inl ⟨by rfl, ?y1⟩) hH ?r1
          case y1 => (intro w' hSw; (try dsimp only at hSw); go_simp; with_reducible rfl)
          try simp only [Act.put, List.setIfInBounds_toArray, List.set_cons_zero, List.set_cons_succ]
          refine wpAnyE_take (i := 2) (v := ?v2) (by simp only [List.getElem?_toArray, List.getElem?_cons_succ, List.getElem?_cons_zero]; rfl) (by kernel_rfl) (by kernel_rfl) (by kernel_rfl) (by exact fun _ _ _ h => h) (by kernel_rfl) (Or.inl ⟨by rfl, ?y2⟩) hH ?r2
          case y2 => (intro w' hSw; (try dsimp only at hSw); go_simp; with_reducible rfl)
          try simp only [Act.put, List.setIfInBounds_toArray, List.set_cons_zero, List.set_cons_succ]
          refine wpAnyE_take (i := 3) (v := ?v3) (by simp only [List.getElem?_toArray, List.getElem?_cons_succ, List.getElem?_cons_zero]; rfl) (by kernel_rfl) (by kernel_rfl) (by kernel_rfl) (by exact fun _ _ _ h => h) (by kernel_rfl) (Or.inl ⟨by rfl, ?y3⟩) hH ?r3
          case y3 => (intro w' hSw; (try dsimp only at hSw); go_simp; with_reducible rfl)
          try simp only [Act.put, List.setIfInBounds_toArray, List.set_cons_zero, List.set_cons_succ]
          refine wpAnyE_take (i := 4) (v := ?v4) (by simp only [List.getElem?_toArray, List.getElem?_cons_succ, List.getElem?_cons_zero]; rfl) (by kernel_rfl) (by kernel_rfl) (by kernel_rfl) (by exact fun _ _ _ h => h) (by kernel_rfl) (Or.inl ⟨by rfl, ?y4⟩) hH ?r4
          case y4 => (intro w' hSw; (try dsimp only at hSw); go_simp; with_reducible rfl)
          try simp only [Act.put, List.setIfInBounds_toArray, List.set_cons_zero, List.set_cons_succ]
          refine wpAnyE_take (i := 5) (v := ?v5) (by simp only [List.getElem?_toArray, List.getElem?_cons_succ, List.getElem?_cons_zero]; rfl) (by kernel_rfl) (by kernel_rfl) (by kernel_rfl) (by exact fun _ _ _ h => h) (by kernel_rfl) (Or.inl ⟨by rfl, ?y5⟩) hH ?r5
          case y5 => (intro w' hSw; (try dsimp only at hSw); go_simp; with_reducible rfl)
          try simp only [Act.put, List.setIfInBounds_toArray, List.set_cons_zero, List.set_cons_succ]
          refine wpAnyE_take (i := 6) (v := ?v6) (by simp only [List.getElem?_toArray, List.getElem?_cons_succ, List.getElem?_cons_zero]; rfl) (by kernel_rfl) (by kernel_rfl) (by kernel_rfl) (by exact fun _ _ _ h => h) (by kernel_rfl) (Or.inl ⟨by rfl, ?y6⟩) hH ?r6
          case y6 => (intro w' hSw; (try dsimp only at hSw); go_simp; with_reducible rfl)
          try simp only [Act.put, List.setIfInBounds_toArray, List.set_cons_zero, List.set_cons_succ]
          refine wpAnyE_take (i := 7) (v := ?v7) (by simp only [List.getElem?_toArray, List.getElem?_cons_succ, List.getElem?_cons_zero]; rfl) (by kernel_rfl) (by kernel_rfl) (by kernel_rfl) (by exact fun _ _ _ h => h) (by kernel_rfl) (Or.inl ⟨by rfl, ?y7⟩) hH ?r7
          case y7 => (intro w' hSw; (try dsimp only at hSw); go_simp; with_reducible rfl)
          try simp only [Act.put, List.setIfInBounds_toArray, List.set_cons_zero, List.set_cons_succ]
          refine wpAnyE_take (i := 8) (v := ?v8) (by simp only [List.getElem?_toArray, List.getElem?_cons_succ, List.getElem?_cons_zero]; rfl) (by kernel_rfl) (by kernel_rfl) (by kernel_rfl) (by exact fun _ _ _ h => h) (by kernel_rfl) (Or.inl ⟨by rfl, ?y8⟩) hH ?r8
          case y8 => (intro w' hSw; (try dsimp only at hSw); go_simp; with_reducible rfl)
          try simp only [Act.put, List.setIfInBounds_toArray, List.set_cons_zero, List.set_cons_succ]
          refine wpAnyE_one (i := 9) (by kernel_rfl) (by simp only [List.getElem?_toArray, List.getElem?_cons_succ, List.getElem?_cons_zero]; rfl) (fun K hK => ?_)
          go_simp
          refine (l4Ready_is x ct cq v5 _).mono ?_
          rintro e w6 ⟨rfl, hb6⟩
          have E6 := (bel_drew (Below.refl w5.heap.size w5)).trans hb6
          have K10 := K9.later E6
          have T10 := T9.later E6 T9.lt
          clear hH
          refine hK.out _ _ ⟨K10.G.five, T10.two, K10.Y.five⟩ (fun hH => ?_)
          clear hK K
          try simp only [Act.put, List.setIfInBounds_toArray, List.set_cons_zero, List.set_cons_succ]
          refine wpAnyE_one (i := 10) (by kernel_rfl) (by simp only [List.getElem?_toArray, List.getElem?_cons_succ, List.getElem?_cons_zero]; rfl) (fun K hK => ?_)
          go_simp
          refine (l4Cert_any s l c sh (some ⟨q, o, none⟩) m cap' zs 1 x ct cq v5 _ HM.out (K10.row.more K10.grw.size)).mono ?_
          rintro e w7 ⟨p7, c7, ps7, rfl, o7, h7, hb7⟩
          have K11 := K10.later hb7
          have T11 := T10.later hb7 T10.lt
          clear hH
          refine hK.out _ _ ⟨K11.G.five, T11.two, K11.Y.five⟩ (fun hH => ?_)
          clear hK K
          try simp only [Act.put, List.setIfInBounds_toArray, List.set_cons_zero, List.set_cons_succ]
          refine wpAnyE_one (i := 11) (by kernel_rfl) (by simp only [List.getElem?_toArray, List.getElem?_cons_succ, List.getElem?_cons_zero]; rfl) (fun K hK => ?_)
          go_simp
          refine (l7Write_own s l c sh (some ⟨q, o, none⟩) m cap' zs x 0 0 0 none 0 0 A6 os.length c6 ct cq v5 (some ⟨p7, 0, none⟩) ps7.length c7 [] os ps7 _ HM.out (K11.row.more K11.grw.size) (by simp) (by omega) (Or.inl ⟨rfl, rfl⟩) (own_slcQ K11.own) (by omega) (own_pairs o7)).mono ?_
          rintro e w8 ⟨a8, b8, d8, f8, g1, c1, g2, c2, D8, rfl, hD8, hne8, o81, o82, hb8⟩
          have K12 := K11.later hb8
          have T12 := T11.later hb8 T11.lt
          clear hH
          refine hK.out _ _ ⟨K12.G.five, T12.two, K12.Y.five⟩ (fun hH => ?_)
          clear hK K
          try simp only [Act.put, List.setIfInBounds_toArray, List.set_cons_zero, List.set_cons_succ]
          refine wpAnyE_take (i := 12) (v := ?v12) (by simp only [List.getElem?_toArray, List.getElem?_cons_succ, List.getElem?_cons_zero]; rfl) (by kernel_rfl) (by kernel_rfl) (by kernel_rfl) (by exact fun _ _ _ h => h) (by kernel_rfl) (Or.inl ⟨by rfl, ?y12⟩) hH ?r12
          case y12 => (intro w' hSw; (try dsimp only at hSw); go_simp; with_reducible rfl)
          try simp only [Act.put, List.setIfInBounds_toArray, List.set_cons_zero, List.set_cons_succ]
          refine wpAnyE_take (i := 13) (v := ?v13) (by simp only [List.getElem?_toArray, List.getElem?_cons_succ, List.getElem?_cons_zero]; rfl) (by kernel_rfl) (by kernel_rfl) (by kernel_rfl) (by exact fun _ _ _ h => h) (by kernel_rfl) (Or.inl ⟨by rfl, ?y13⟩) hH ?r13
          case y13 => (intro w' hSw; (try dsimp only at hSw); go_simp; with_reducible rfl)
          try simp only [Act.put, List.setIfInBounds_toArray, List.set_cons_zero, List.set_cons_succ]
          refine wpAnyE_pure (i := 14) (v := ?v14) (by simp only [List.getElem?_toArray, List.getElem?_cons_succ, List.getElem?_cons_zero]; rfl) (by kernel_rfl) (by kernel_rfl) (by kernel_rfl) (by exact fun _ _ _ h => h) (by kernel_rfl) (Or.inl ⟨by rfl, ?y14⟩) hH ?r14
          case y14 => (intro w' hSw; go_simp; with_reducible rfl)
          try simp only [Act.put, List.setIfInBounds_toArray, List.set_cons_zero, List.set_cons_succ]
          have fz := K12.Y.frozen
          obtain ⟨z0, z1, z2, z3, z4⟩ := K12.Y.five
          refine wpAnyE_last (by kernel_rfl) (by simp only [List.getElem?_toArray, List.getElem?_cons_succ, List.getElem?_cons_zero]; rfl) (by kernel_rfl) (fun K hK => ?_)
          go_simp
          refine hK.out _ _ ?_
          clear hK K
          try simp only [Act.put, List.setIfInBounds_toArray, List.set_cons_zero, List.set_cons_succ]
          obtain ⟨x0, x1, x2, x3, x4⟩ := K12.X.five
          have fx := K12.X.frozen
          have HP := Lib.hid (K10.fin2 (a := a8) (b := b8) (d := d8) hgl (by omega) hD8 hne8 hb7 hb8 o81 o82)
          clear K9 K10 K11 K12 T9 T10 T11 T12 o81 o82 o7 hb7 hb8 hb6 E6 d0 d1 d2 d3 d4 t0 t1 y0 y1 y2 y3 y4 hH
          go_wp2
          exact bodyPost_ret (v := .agg #[.int .i64 a8, .int .i64 b8, .int .i64 d8, .slice (some ⟨g1, 0, none⟩) D8.length c1, .slice (some ⟨g2, 0, none⟩) os.length c2]) (by simp [results, Tryz.results163, go_sem, x0, x1, x2, x3, x4]) rfl (HP.out _ _ _ _ _ _ _ _ _ _)

end Go.Proofs.YtjdepjpjjgkmbaaGreat

/- The model's l7DrawAny: a group, a shelf's number and a shelf, right or nearly so; its lists one's own. -/
namespace Go.Proofs.YtjdepjpjjgkmbaaGreat
open Go.RowKit Go.Deep

/-- What is drawn: a group, a number, a shelf, and the cursor further on. -/
def DrawnGR (g : Nat) (A : Option Addr) (n cap : Nat) (w : World) (e : Ending) (w' : World) : Prop :=
  ∃ (s l c sh : Int) (q m cap' : Nat) (zs : List Int) (x a b d : Int) (u v : Value) (ps : List (Int × Int)) (os : List Opn), e = .returned (.tuple #[.agg #[.int .i64 s, .int .i64 l, .int .i64 c, .int .i64 sh, .slice (some ⟨q, 0, none⟩) m cap'], .int .i64 x, .agg #[.int .i64 a, .int .i64 b, .int .i64 d, u, v]]) ∧ okB s l c sh zs = true ∧ s ≤ 6 ∧ c ≤ 3 ∧ m ≤ 100 ∧ w.heap.size + 2 ≤ q ∧ Row w' w'.heap.size (some ⟨q, 0, none⟩) m zs ∧ ps.length ≤ 21 ∧ os.length ≤ 7 ∧ w'.ownsRow (w.heap.size + 2) 136 2 u ps.length (flatP ps) ∧ w'.ownsRow (w.heap.size + 2) 97 4 v os.length (flatO os) ∧ Cur w' 169 .i64 g A n cap ∧ w.grownBy w' (some g)

/-- What l7DrawAny keeps. -/
structure RAs (w wr : World) (g : Nat) (A : Option Addr) (n cap : Nat) (U V : Nat) (s l c sh : Int) (q m cap' : Nat) (zs : List Int) (a b d : Int) (u v : Value) (ps : List (Int × Int)) (os : List Opn) : Prop where
  cur : Cur wr 169 .i64 g A n cap
  grw : w.grownBy wr (some g)
  r1 : Box wr w.heap.size 26 #[.int .i64 0, .int .i64 0, .int .i64 0, .int .i64 0, .slice none 0 0]
  r2 : Box wr (w.heap.size + 1) 80 #[.int .i64 0, .int .i64 0, .int .i64 0, .slice none 0 0, .slice none 0 0]
  gr : Box wr U 26 #[.int .i64 s, .int .i64 l, .int .i64 c, .int .i64 sh, .slice (some ⟨q, 0, none⟩) m cap']
  row : Row wr wr.heap.size (some ⟨q, 0, none⟩) m zs
  var : Box wr V 80 #[.int .i64 a, .int .i64 b, .int .i64 d, u, v]
  ou : wr.ownsRow (w.heap.size + 2) 136 2 u ps.length (flatP ps)
  ov : wr.ownsRow (w.heap.size + 2) 97 4 v os.length (flatO os)
  gl : g < w.heap.size
  ql : q < wr.heap.size
  q2 : w.heap.size + 2 ≤ q
  qU : q ≠ U
  qV : q ≠ V
  UV : U ≠ V
  Ul : w.heap.size + 2 ≤ U
  Vl : w.heap.size + 2 ≤ V
  uU : u.ownBlock ≠ some U
  uV : u.ownBlock ≠ some V
  uq : u.ownBlock ≠ some q
  vU : v.ownBlock ≠ some U
  vV : v.ownBlock ≠ some V
  vq : v.ownBlock ≠ some q
  uv : u.ownBlock = none ∨ u.ownBlock ≠ v.ownBlock
theorem own_ne {w : World} {base : Nat} {t : TypeId} {k : Nat} {v : Value} {n : Nat} {xs : List Value} (h : w.ownsRow base t k v n xs) {b : Nat} (hb : b < base) : v.ownBlock ≠ some b := fun e => by have := (h.lt b e).1; omega
section
variable {w wr w' : World} {g : Nat} {A : Option Addr} {n cap : Nat} {U V : Nat} {s l c sh : Int} {q m cap' : Nat} {zs : List Int} {a b d : Int} {u v u' v' : Value} {ps ps' : List (Int × Int)} {os os' : List Opn}
theorem RAs.draw (h : RAs w wr g A n cap U V s l c sh q m cap' zs a b d u v ps os) (hg : wr.grownBy w' (some g)) (hc : Cur w' 169 .i64 g A n cap) : RAs w w' g A n cap U V s l c sh q m cap' zs a b d u v ps os := by
  have h1 := h.gl
  have h2 := h.Ul
  have h3 := h.Vl
  have h4 := h.q2
  exact { h with
    cur := hc
    grw := grown_trans h.grw hg
    r1 := h.r1.kept hg (by intro e; injection e with e; omega)
    r2 := h.r2.kept hg (by intro e; injection e with e; omega)
    gr := h.gr.kept hg (by intro e; injection e with e; omega)
    row := h.row.kept hg (by intro e; injection e with e; omega)
    var := h.var.kept hg (by intro e; injection e with e; omega)
    ou := h.ou.kept hg (.inr (own_ne h.ou (by omega)))
    ov := h.ov.kept hg (.inr (own_ne h.ov (by omega)))
    ql := Nat.lt_of_lt_of_le h.ql hg.size }
/-- A cell of the shelf is written that is no list. -/
theorem RAs.set (h : RAs w wr g A n cap U V s l c sh q m cap' zs a b d u v ps os) (i : Nat) (z : Value) {a' b' d' : Int} (e : (#[.int .i64 a, .int .i64 b, .int .i64 d, u, v] : Array Value).setIfInBounds i z = #[.int .i64 a', .int .i64 b', .int .i64 d', u, v]) : RAs w (wr.setCell ⟨V, i, none⟩ z) g A n cap U V s l c sh q m cap' zs a' b' d' u v ps os := by
  have h1 := h.gl
  have h2 := h.Ul
  have h3 := h.Vl
  have h4 := h.qV
  have h5 := h.UV
  have hg : wr.grownBy (wr.setCell ⟨V, i, none⟩ z) (some V) := grown_set (grown_refl wr _) i _
  exact { h with
    cur := h.cur.kept hg (fun r hr => by injection hr with hr; omega)
    grw := grown_new h.grw (p := ⟨V, i, none⟩) (show w.heap.size ≤ V by omega) _
    r1 := h.r1.kept hg (by intro e; injection e with e; omega)
    r2 := h.r2.kept hg (by intro e; injection e with e; omega)
    gr := h.gr.kept hg (by intro e; injection e with e; omega)
    row := h.row.kept hg (by intro e; injection e with e; omega)
    var := e ▸ h.var.set i z
    ou := h.ou.kept hg (.inr h.uV)
    ov := h.ov.kept hg (.inr h.vV)
    ql := Nat.lt_of_lt_of_le h.ql hg.size }
/-- A longer list of opens is written back. -/
theorem RAs.pushV (h : RAs w wr g A n cap U V s l c sh q m cap' zs a b d u v ps os) (hg : wr.grownBy w' v.ownBlock) (hv : w'.ownsRow (w.heap.size + 2) 97 4 v' os'.length (flatO os')) (hat : v.ownBlock = v'.ownBlock ∨ ∃ b, v'.ownBlock = some b ∧ wr.heap.size ≤ b) :
    RAs w (w'.setCell ⟨V, 4, none⟩ v') g A n cap U V s l c sh q m cap' zs a b d u v' ps os' := by
  have h1 := h.gl
  have h2 := h.Ul
  have h3 := h.Vl
  have h4 := h.gr.lt
  have h5 := h.var.lt
  have h6 := h.grw.size
  have h7 := h.UV
  have h8 := h.qV
  have far : ∀ b, b < w.heap.size + 2 → v.ownBlock ≠ some b := fun b hb => own_ne h.ov hb
  have ne : ∀ b, b < wr.heap.size → v.ownBlock ≠ some b → v'.ownBlock ≠ some b := fun b hb hc e => by
    rcases hat with ha | ⟨x, hx, hx'⟩
    · exact hc (ha.trans e)
    · rw [hx] at e
      injection e with e
      omega
  have gs : w'.grownBy (w'.setCell ⟨V, 4, none⟩ v') (some V) := grown_set (grown_refl w' _) 4 _
  have huv' : u.ownBlock = none ∨ u.ownBlock ≠ v'.ownBlock := by
    rcases hb : u.ownBlock with _ | k
    · exact .inl rfl
    · refine .inr fun e => ?_
      refine ne k (h.ou.lt k hb).2 ?_ e.symm
      intro e'
      rcases h.uv with h' | h'
      · rw [h'] at hb; cases hb
      · exact h' (hb.trans e'.symm)
  exact { h with
    cur := (h.cur.kept hg (fun r hr => by have := (h.ov.lt r hr).1; omega)).kept gs (fun r hr => by injection hr with hr; omega)
    grw := grown_far (grown_far h.grw hg (fun r hr => by have := (h.ov.lt r hr).1; omega)) gs (fun r hr => by injection hr with hr; omega)
    r1 := (h.r1.kept hg (far _ (by omega))).kept gs (by intro e; injection e with e; omega)
    r2 := (h.r2.kept hg (far _ (by omega))).kept gs (by intro e; injection e with e; omega)
    gr := (h.gr.kept hg h.vU).kept gs (by intro e; injection e with e; omega)
    row := (h.row.kept hg h.vq).kept gs (by intro e; injection e with e; omega)
    var := (h.var.kept hg h.vV).set 4 v'
    ou := (h.ou.kept hg h.uv).kept gs (.inr h.uV)
    ov := hv.kept gs (.inr (ne _ h5 h.vV))
    ql := Nat.lt_of_lt_of_le h.ql (Nat.le_trans hg.size gs.size)
    vU := ne _ h4 h.vU
    vV := ne _ h5 h.vV
    vq := ne _ h.ql h.vq
    uv := huv' }
/-- A longer certificate is written back. -/
theorem RAs.pushU (h : RAs w wr g A n cap U V s l c sh q m cap' zs a b d u v ps os) (hg : wr.grownBy w' u.ownBlock) (hu : w'.ownsRow (w.heap.size + 2) 136 2 u' ps'.length (flatP ps')) (hat : u.ownBlock = u'.ownBlock ∨ ∃ b, u'.ownBlock = some b ∧ wr.heap.size ≤ b) :
    RAs w (w'.setCell ⟨V, 3, none⟩ u') g A n cap U V s l c sh q m cap' zs a b d u' v ps' os := by
  have h1 := h.gl
  have h2 := h.Ul
  have h3 := h.Vl
  have h4 := h.gr.lt
  have h5 := h.var.lt
  have h6 := h.grw.size
  have h7 := h.UV
  have h8 := h.qV
  have far : ∀ b, b < w.heap.size + 2 → u.ownBlock ≠ some b := fun b hb => own_ne h.ou hb
  have ne : ∀ b, b < wr.heap.size → u.ownBlock ≠ some b → u'.ownBlock ≠ some b := fun b hb hc e => by
    rcases hat with ha | ⟨x, hx, hx'⟩
    · exact hc (ha.trans e)
    · rw [hx] at e
      injection e with e
      omega
  have gs : w'.grownBy (w'.setCell ⟨V, 3, none⟩ u') (some V) := grown_set (grown_refl w' _) 3 _
  have hvu : v.ownBlock = none ∨ v.ownBlock ≠ u.ownBlock := by
    rcases hb : v.ownBlock with _ | k
    · exact .inl rfl
    · refine .inr fun e => ?_
      rcases h.uv with h' | h'
      · rw [h'] at e; cases e
      · exact h' (e.symm.trans hb.symm)
  have huv' : u'.ownBlock = none ∨ u'.ownBlock ≠ v.ownBlock := by
    rcases hb : v.ownBlock with _ | k
    · rcases u'.ownBlock with _ | _
      · exact .inl rfl
      · exact .inr (by simp)
    · refine .inr fun e => ?_
      refine ne k (h.ov.lt k hb).2 ?_ e
      intro e'
      rcases h.uv with h' | h'
      · rw [h'] at e'; cases e'
      · exact h' (e'.trans hb.symm)
  exact { h with
    cur := (h.cur.kept hg (fun r hr => by have := (h.ou.lt r hr).1; omega)).kept gs (fun r hr => by injection hr with hr; omega)
    grw := grown_far (grown_far h.grw hg (fun r hr => by have := (h.ou.lt r hr).1; omega)) gs (fun r hr => by injection hr with hr; omega)
    r1 := (h.r1.kept hg (far _ (by omega))).kept gs (by intro e; injection e with e; omega)
    r2 := (h.r2.kept hg (far _ (by omega))).kept gs (by intro e; injection e with e; omega)
    gr := (h.gr.kept hg h.uU).kept gs (by intro e; injection e with e; omega)
    row := (h.row.kept hg h.uq).kept gs (by intro e; injection e with e; omega)
    var := (h.var.kept hg h.uV).set 3 u'
    ou := hu.kept gs (.inr (ne _ h5 h.uV))
    ov := (h.ov.kept hg hvu).kept gs (.inr h.vV)
    ql := Nat.lt_of_lt_of_le h.ql (Nat.le_trans hg.size gs.size)
    uU := ne _ h4 h.uU
    uV := ne _ h5 h.uV
    uq := ne _ h.ql h.uq
    uv := huv' }
/-- The answer is laid into the results. -/
theorem RAs.fin (h : RAs w wr g A n cap U V s l c sh q m cap' zs a b d u v ps os) (hok : okB s l c sh zs = true) (hs : s ≤ 6) (hc : c ≤ 3) (hm : m ≤ 100) (hp : ps.length ≤ 21) (ho : os.length ≤ 7) (x : Int) (x0 x1 x2 x3 x4 y0 y1 y2 y3 y4 : Value) :
    DrawnGR g A n cap w (.returned (.tuple #[.agg #[.int .i64 s, .int .i64 l, .int .i64 c, .int .i64 sh, .slice (some ⟨q, 0, none⟩) m cap'], .int .i64 x, .agg #[.int .i64 a, .int .i64 b, .int .i64 d, u, v]])) ((((((((((wr.setCell ⟨w.heap.size, 0, none⟩ x0).setCell ⟨w.heap.size, 1, none⟩ x1).setCell ⟨w.heap.size, 2, none⟩ x2).setCell ⟨w.heap.size, 3, none⟩ x3).setCell ⟨w.heap.size, 4, none⟩ x4).setCell ⟨w.heap.size + 1, 0, none⟩ y0).setCell ⟨w.heap.size + 1, 1, none⟩ y1).setCell ⟨w.heap.size + 1, 2, none⟩ y2).setCell ⟨w.heap.size + 1, 3, none⟩ y3).setCell ⟨w.heap.size + 1, 4, none⟩ y4).drew := by
  have h1 := h.gl
  have h2 := h.q2
  have gx := grown5 wr w.heap.size x0 x1 x2 x3 x4
  have gy := grown_drew (grown5 (((((wr.setCell ⟨w.heap.size, 0, none⟩ x0).setCell ⟨w.heap.size, 1, none⟩ x1).setCell ⟨w.heap.size, 2, none⟩ x2).setCell ⟨w.heap.size, 3, none⟩ x3).setCell ⟨w.heap.size, 4, none⟩ x4) (w.heap.size + 1) y0 y1 y2 y3 y4)
  exact ⟨s, l, c, sh, q, m, cap', zs, x, a, b, d, u, v, ps, os, rfl, hok, hs, hc, hm, h2, (h.row.kept gx (by intro e; injection e with e; omega)).kept gy (by intro e; injection e with e; omega), hp, ho, (h.ou.kept gx (.inr (own_ne h.ou (by omega)))).kept gy (.inr (own_ne h.ou (by omega))), (h.ov.kept gx (.inr (own_ne h.ov (by omega)))).kept gy (.inr (own_ne h.ov (by omega))), (h.cur.kept gx (fun r hr => by injection hr with hr; omega)).kept gy (fun r hr => by injection hr with hr; omega), grown_far (grown_far h.grw gx (fun r hr => by injection hr with hr; omega)) gy (fun r hr => by injection hr with hr; omega)⟩
end

end Go.Proofs.YtjdepjpjjgkmbaaGreat

/- The model's l7DrawAny, walked (written by draw_reg5.py). -/
namespace Go.Proofs.YtjdepjpjjgkmbaaGreat
open Go.RowKit Go.Deep

set_option maxRecDepth 100000 in
set_option maxHeartbeats 8000000 in
theorem l7DrawAny_any (g : Nat) (A : Option Addr) (n cap : Nat) (w : World) (hc : Cur w 169 .i64 g A n cap) :
    Calls Tryz.prog 165 #[.pointer (some ⟨g, 0, none⟩)] w (DrawnGR g A n cap w) := by
  obtain ⟨i0, hi0, hz0, hz1, hz2⟩ := info_parts Tryz.infoSealI
  obtain ⟨j0, hj0, hy0, hy1, hy2⟩ := info_parts Tryz.infoOpen
  have hgl := hc.lt
  have E0 := bel_trans (bel_alloc w (.cells #[.int .i64 0, .int .i64 0, .int .i64 0, .int .i64 0, .slice none 0 0] 26)) (bel_alloc _ (.cells #[.int .i64 0, .int .i64 0, .int .i64 0, .slice none 0 0, .slice none 0 0] 80))
  have R1 := (Box.new w 26 #[.int .i64 0, .int .i64 0, .int .i64 0, .int .i64 0, .slice none 0 0]).alloc (.cells #[.int .i64 0, .int .i64 0, .int .i64 0, .slice none 0 0, .slice none 0 0] 80)
  have R2 := Box.new (w.alloc (.cells #[.int .i64 0, .int .i64 0, .int .i64 0, .int .i64 0, .slice none 0 0] 26)) 80 #[.int .i64 0, .int .i64 0, .int .i64 0, .slice none 0 0, .slice none 0 0]
  simp only [World.size_alloc] at R2
  have hc0 := hc.kept (grown_bel E0 none) (fun q hq => by cases hq)
  clear hc
  go_enter Tryz.func165, Tryz.ntmps165
  go_wp2_with fail
  generalize ((w.alloc _).alloc _ : World) = w0 at E0 R1 R2 hc0 ⊢
  refine (l1DrawGroup_any g A n cap w0 hc0).mono ?_
  rintro e w1 ⟨s, l, c, sh, q, cap', zs, rfl, hown, hok, hs6, hc3, hc1, hg1⟩
  have hrow1 := own_row hown
  have hq1 := hown.lt q rfl
  have hz := R2.lt
  have hs0 := E0.size
  clear hown
  obtain ⟨ok1, _, ok2, _, _, _⟩ := okB_parts hok
  have hml : zs.length ≤ 100 ∧ 1 ≤ sh := by
    have h := hok
    simp only [okB, Bool.and_eq_true, decide_eq_true_eq] at h
    have h1 := h.1.2
    have h2 := (inB_true.1 h.1.1.1.2)
    omega
  obtain ⟨hml, hsh⟩ := hml
  generalize hM : zs.length = m at hrow1 hml
  clear hM
  have U2 := Box.new w1 26 #[.int .i64 s, .int .i64 l, .int .i64 c, .int .i64 sh, .slice (some ⟨q, 0, none⟩) m cap']
  have hb2 := bel_alloc w1 (.cells #[.int .i64 s, .int .i64 l, .int .i64 c, .int .i64 sh, .slice (some ⟨q, 0, none⟩) m cap'] 26)
  have G2 := grown_trans (grown_bel E0 (some g)) (grown_trans hg1 (grown_bel hb2 _))
  have S1 := (R1.kept hg1 (by intro e; injection e with e; omega)).later hb2 (by have := (R1.kept hg1 (by intro e; injection e with e; omega)).lt; omega)
  have S2 := (R2.kept hg1 (by intro e; injection e with e; omega)).later hb2 (by have := (R2.kept hg1 (by intro e; injection e with e; omega)).lt; omega)
  have r2 := (hrow1.below hb2 (Nat.le_refl _)).more hb2.size
  have hc2 := hc1.kept (grown_bel hb2 none) (fun q hq => by cases hq)
  have hs1 := hg1.size
  have hs2 := hb2.size
  have hul := U2.lt
  clear R1 R2 hc0 hc1 hg1 hrow1 hb2
  go_upto_region 2 with fail
  generalize (w1.alloc _ : World) = w2 at U2 G2 S1 S2 r2 hc2 hs2 hul ⊢
  obtain ⟨U, hU⟩ : ∃ U, U = w1.heap.size := ⟨_, rfl⟩
  rw [← hU] at U2 hul hs2 hs1 hq1 ⊢
  have hUl : w.heap.size + 2 ≤ U := by omega
  have hq2 : w.heap.size + 2 ≤ q := by omega
  have hqU : q ≠ U := by omega
  have hql : q < w2.heap.size := by omega
  have hgq : g ≠ q := by omega
  clear hU E0
  have HM : Hid (m ≤ maxLen) := by show m ≤ maxLen; unfold maxLen; omega
  replace hok := Lib.hid hok
  obtain ⟨d0, d1, d2, d3, d4⟩ := U2.five
  go_wp2_with fail
  refine (l1Below_any g A n cap sh w2 (by omega) hc2).mono ?_
  rintro e w3 ⟨x, ⟨hx0, hx1⟩, rfl, hc3', hg3⟩
  have U3 := U2.kept hg3 (by intro e; injection e with e; omega)
  have G3 := grown_trans G2 hg3
  have S13 := S1.kept hg3 (by intro e; injection e with e; omega)
  have S23 := S2.kept hg3 (by intro e; injection e with e; omega)
  have r3 := r2.kept hg3 (by intro e; injection e with e; omega)
  have hs3 := hg3.size
  clear U2 G2 S1 S2 r2 hc2 hg3 d0 d1 d2 d3 d4
  obtain ⟨d0, d1, d2, d3, d4⟩ := U3.five
  go_wp2_with fail
  refine (l7Draw_any g A n cap s l c sh q 0 m cap' zs x w3 HM.out ok2 (by omega) (by omega) (by omega) hc3' r3 hgq).mono ?_
  rintro e w4 ⟨a, b, d, u, v, ps, os, rfl, hps, hos, ou, ov, huv, hc4, hg4⟩
  obtain ⟨A3, c3, rfl⟩ := own_form ou
  obtain ⟨A4, c4, rfl⟩ := own_form ov
  have hb5 := bel_alloc w4 (.cells #[.int .i64 a, .int .i64 b, .int .i64 d, .slice A3 ps.length c3, .slice A4 os.length c4] 80)
  have hs4 := hg4.size
  have U4 := U3.kept hg4 (by intro e; injection e with e; omega)
  have K5 : RAs w (w4.alloc (.cells #[.int .i64 a, .int .i64 b, .int .i64 d, .slice A3 ps.length c3, .slice A4 os.length c4] 80)) g A n cap U w4.heap.size s l c sh q m cap' zs a b d (.slice A3 ps.length c3) (.slice A4 os.length c4) ps os := {
    cur := hc4.kept (grown_bel hb5 none) (fun q hq => by cases hq)
    grw := grown_trans (grown_trans G3 hg4) (grown_bel hb5 _)
    r1 := (S13.kept hg4 (by intro e; injection e with e; omega)).alloc _
    r2 := (S23.kept hg4 (by intro e; injection e with e; omega)).alloc _
    gr := U4.alloc _
    row := ((r3.kept hg4 (by intro e; injection e with e; omega)).below hb5 (Nat.le_refl _)).more hb5.size
    var := Box.new w4 _ _
    ou := ownLow (ou.kept (grown_bel hb5 none) (by cases Value.ownBlock (.slice A3 ps.length c3) <;> simp)) (by omega)
    ov := ownLow (ov.kept (grown_bel hb5 none) (by cases Value.ownBlock (.slice A4 os.length c4) <;> simp)) (by omega)
    gl := hgl
    ql := by have := hb5.size; omega
    q2 := hq2
    qU := hqU
    qV := by omega
    UV := by have := U4.lt; omega
    Ul := hUl
    Vl := by omega
    uU := own_ne ou (by omega)
    uV := fun e => by have := (ou.lt _ e).2; omega
    uq := own_ne ou (by omega)
    vU := own_ne ov (by omega)
    vV := fun e => by have := (ov.lt _ e).2; omega
    vq := own_ne ov (by omega)
    uv := huv }
  clear U3 U4 G3 S13 S23 r3 hc3' hg4 hc4 ou ov huv d0 d1 d2 d3 d4 hb5
  go_upto_region 4 with fail
  generalize (w4.alloc _ : World) = w5 at K5 ⊢
  generalize w4.heap.size = V at K5 ⊢
  clear hs0 hs1 hs2 hs3 hs4 hz hql hul hq1 hqU hUl hgq hq2
  go_wp2_with fail
  refine (l1Once_any g A n cap 6 w5 (by omega) K5.cur).mono ?_
  rintro e w6 ⟨bb, rfl, hcN, hgN⟩
  have K6 := K5.draw hgN hcN
  clear K5 hgN hcN
  go_upto_if 19 with fail
  go_cut [6] (fun xv wr => ∃ (x a b d : Int) (u v : Value) (ps : List (Int × Int)) (os : List Opn), xv = .int .i64 x ∧ ps.length ≤ 21 ∧ os.length ≤ 7 ∧ RAs w wr g A n cap U V s l c sh q m cap' zs a b d u v ps os)
  case first =>
    rcases bb with _ | _
    · go_wp2_with fail
      go_meet
      exact ⟨_, _, _, _, _, _, _, _, rfl, by omega, by omega, K6⟩
    · go_wp2_with fail
      refine (l1Below_any g A n cap 5 w6 (by omega) K6.cur).mono ?_
      rintro e w7 ⟨z, ⟨hz0', hz1'⟩, rfl, hcN, hgN⟩
      have K7 := K6.draw hgN hcN
      clear K6 hcN hgN
      have hcase : z = 0 ∨ z = 1 ∨ z = 2 ∨ z = 3 ∨ z = 4 := by omega
      clear hz0' hz1'
      rcases hcase with rfl | rfl | rfl | rfl | rfl
      · obtain ⟨x0, x1, x2, x3, x4⟩ := K7.var.five
        have fr := K7.var.frozen
        have HK := Lib.hid K7
        clear K7
        go_wp2_with fail
        go_meet
        exact ⟨_, _, _, _, _, _, _, _, rfl, by omega, by omega, HK.out.set 2 _ rfl⟩
      · go_wp2_with fail
        refine (l2DrawAny_any g A n cap w7 K7.cur).mono ?_
        rintro e w8 ⟨y, y2, rfl, hcN, hgN⟩
        have K8 := K7.draw hgN hcN
        clear K7 hgN hcN
        obtain ⟨x0, x1, x2, x3, x4⟩ := K8.var.five
        have fr := K8.var.frozen
        have HK := Lib.hid ((K8.set 0 (.int .i64 y) rfl).set 1 (.int .i64 y2) rfl)
        clear K8
        go_wp2_with fail
        go_meet
        exact ⟨_, _, _, _, _, _, _, _, rfl, by omega, by omega, HK.out⟩
      · obtain ⟨x0, x1, x2, x3, x4⟩ := K7.var.five
        go_wp2_with fail
        refine wp_region_sink 10 (fun w' => w'.cell? ⟨V, 4, none⟩ = some (.slice A4 os.length c4)) (by kernel_rfl) (K7.var.cell 4) (fun hH => ?_)
        refine wpAnyE_take (i := 0) (v := ?vv0) (by simp only [List.getElem?_toArray, List.getElem?_cons_zero]; rfl) (by kernel_rfl) (by kernel_rfl) (by kernel_rfl) (by exact fun _ _ _ h => h) (by kernel_rfl) (Or.inl ⟨by rfl, ?yv0⟩) hH ?rv0
        case yv0 => (intro w' hSw; (try dsimp only at hSw); go_simp; try with_reducible rfl)
        try simp only [Act.put, List.setIfInBounds_toArray, List.set_cons_zero, List.set_cons_succ]
        refine wpAnyE_take (i := 1) (v := ?vv1) (by simp only [List.getElem?_toArray, List.getElem?_cons_succ, List.getElem?_cons_zero]; rfl) (by kernel_rfl) (by kernel_rfl) (by kernel_rfl) (by exact fun _ _ _ h => h) (by kernel_rfl) (Or.inl ⟨by rfl, ?yv1⟩) hH ?rv1
        case yv1 => (intro w' hSw; (try dsimp only at hSw); go_simp; try with_reducible rfl)
        try simp only [Act.put, List.setIfInBounds_toArray, List.set_cons_zero, List.set_cons_succ]
        refine wpAnyE_take (i := 2) (v := ?vv2) (by simp only [List.getElem?_toArray, List.getElem?_cons_succ, List.getElem?_cons_zero]; rfl) (by kernel_rfl) (by kernel_rfl) (by kernel_rfl) (by exact fun _ _ _ h => h) (by kernel_rfl) (Or.inl ⟨by rfl, ?yv2⟩) hH ?rv2
        case yv2 => (intro w' hSw; (try dsimp only at hSw); go_simp; try with_reducible rfl)
        try simp only [Act.put, List.setIfInBounds_toArray, List.set_cons_zero, List.set_cons_succ]
        refine wpAnyE_take (i := 4) (v := ?vv4) (by simp only [List.getElem?_toArray, List.getElem?_cons_succ, List.getElem?_cons_zero]; rfl) (by kernel_rfl) (by kernel_rfl) (by kernel_rfl) (by exact fun _ _ _ h => h) (by kernel_rfl) (Or.inl ⟨by rfl, ?yv4⟩) hH ?rv4
        case yv4 => (intro w' hSw; (try dsimp only at hSw); go_simp; try with_reducible rfl)
        try simp only [Act.put, List.setIfInBounds_toArray, List.set_cons_zero, List.set_cons_succ]
        refine wpAnyE_one (i := 3) (by kernel_rfl) (by simp only [List.getElem?_toArray, List.getElem?_cons_succ, List.getElem?_cons_zero]; rfl) (fun K hK => ?_)
        go_simp
        refine (l1Below_any g A n cap 9 _ (by omega) ?_).mono ?_
        · exact K7.cur
        rintro e w8 ⟨y, _, rfl, hcN, hgN⟩
        have K8 := K7.draw (grown_of_drew hgN) hcN
        clear hH
        refine hK.out _ _ (K8.var.cell 4) (fun hH => ?_)
        clear hK K
        try simp only [Act.put, List.setIfInBounds_toArray, List.set_cons_zero, List.set_cons_succ]
        refine wpAnyE_one (i := 5) (by kernel_rfl) (by simp only [List.getElem?_toArray, List.getElem?_cons_succ, List.getElem?_cons_zero]; rfl) (fun K hK => ?_)
        go_simp
        refine (l2DrawAny_any g A n cap w8 K8.cur).mono ?_
        rintro e w9 ⟨y2, y3, rfl, hcM, hgM⟩
        have K9 := K8.draw hgM hcM
        have hv9 := K9.var.lt
        have vl9 := K9.Vl
        clear hH
        refine hK.out _ _ (K9.var.cell 4) (fun hH => ?_)
        clear hK K
        try simp only [Act.put, List.setIfInBounds_toArray, List.set_cons_zero, List.set_cons_succ]
        refine wpAnyE_take (i := 6) (v := ?vv6) (by simp only [List.getElem?_toArray, List.getElem?_cons_succ, List.getElem?_cons_zero]; rfl) (by kernel_rfl) (by kernel_rfl) (by kernel_rfl) (by exact fun _ _ _ h => h) (by kernel_rfl) (Or.inl ⟨by rfl, ?yv6⟩) hH ?rv6
        case yv6 => (intro w' hSw; (try dsimp only at hSw); go_simp; try with_reducible rfl)
        try simp only [Act.put, List.setIfInBounds_toArray, List.set_cons_zero, List.set_cons_succ]
        refine wpAnyE_one (i := 7) (by kernel_rfl) (by simp only [List.getElem?_toArray, List.getElem?_cons_succ, List.getElem?_cons_zero]; rfl) (fun K hK => ?_)
        go_simp
        clear hH
        refine hK.out _ _ ((K9.var.alloc _).cell 4) (fun hH => ?_)
        clear hK K
        try simp only [Act.put, List.setIfInBounds_toArray, List.set_cons_zero, List.set_cons_succ]
        refine wpAnyE_one (i := 8) (by kernel_rfl) (by simp only [List.getElem?_toArray, List.getElem?_cons_succ, List.getElem?_cons_zero]; rfl) (fun K hK => ?_)
        refine step_append_lies _ (by rfl) _ _ _ (by rfl) (w.heap.size + 2) 97 j0 _ 4 32 Tryz.underlying78 hj0 hy0 hy1 hy2 rfl (by omega) (.slice A4 os.length c4) os.length (flatO os) (by rfl) (K9.ov.alloc _) ⟨w9.heap.size, 0, none⟩ 1 1 [.int .i64 y, .int .i64 y2, .int .i64 y3, .int .i64 0] (by rfl) (by rfl) (World.news_of_block (cs := #[.int .i64 y, .int .i64 y2, .int .i64 y3, .int .i64 0]) (t := 97) (fr := (0, 0)) (heap_alloc_new w9 _)) (by simp [Value.oneCell']) (by omega) (by unfold maxLen; omega) (by omega) (by simp; omega) (w9.heap.size + 1) (by simp) ?_
        intro gg cap2 wd hown2 hgrow2 hat hlt2
        have gd := grown_trans (grown_bel (bel_alloc w9 (.cells #[.int .i64 y, .int .i64 y2, .int .i64 y3, .int .i64 0] 97)) (Value.ownBlock (.slice A4 os.length c4))) hgrow2
        have bd := K9.var.kept gd K9.vV
        clear hH
        refine hK.out _ _ (bd.cell 4) (fun hH => ?_)
        clear hK K
        try simp only [Act.put, List.setIfInBounds_toArray, List.set_cons_zero, List.set_cons_succ]
        refine wpAnyE_take (i := 9) (v := ?vv9) (by simp only [List.getElem?_toArray, List.getElem?_cons_succ, List.getElem?_cons_zero]; rfl) (by kernel_rfl) (by kernel_rfl) (by kernel_rfl) (by exact fun _ _ _ h => h) (by kernel_rfl) (Or.inl ⟨by rfl, ?yv9⟩) hH ?rv9
        case yv9 => (intro w' hSw; (try dsimp only at hSw); go_simp; try with_reducible rfl)
        try simp only [Act.put, List.setIfInBounds_toArray, List.set_cons_zero, List.set_cons_succ]
        have c4' := bd.cell 4
        have f4 := bd.frozen 4
        refine wpAnyE_last (by kernel_rfl) (by simp only [List.getElem?_toArray, List.getElem?_cons_succ, List.getElem?_cons_zero]; rfl) (by kernel_rfl) (fun K hK => ?_)
        go_simp
        refine hK.out _ _ ?_
        clear hK K
        try simp only [Act.put, List.setIfInBounds_toArray, List.set_cons_zero, List.set_cons_succ]
        have HK := Lib.hid (K9.pushV (v' := .slice (some ⟨gg, 0, none⟩) (os.length + 1) cap2) (os' := os ++ [(y, y2, y3, 0)]) gd (by simpa [flatO_snoc] using hown2) (by rcases hat with h | h; exact .inl h; exact .inr ⟨gg, rfl, by omega⟩))
        clear K7 K8 K9 bd gd hown2 hgrow2 hcN hgN hcM hgM x0 x1 x2 x3 x4 c4' f4
        go_wp2_with fail
        go_meet
        exact ⟨_, _, _, _, _, _, _, _, rfl, by omega, by simp; omega, HK.out⟩
      · obtain ⟨x0, x1, x2, x3, x4⟩ := K7.var.five
        go_wp2_with fail
        refine wp_region_sink 8 (fun w' => w'.cell? ⟨V, 3, none⟩ = some (.slice A3 ps.length c3)) (by kernel_rfl) (K7.var.cell 3) (fun hH => ?_)
        refine wpAnyE_take (i := 0) (v := ?vu0) (by simp only [List.getElem?_toArray, List.getElem?_cons_zero]; rfl) (by kernel_rfl) (by kernel_rfl) (by kernel_rfl) (by exact fun _ _ _ h => h) (by kernel_rfl) (Or.inl ⟨by rfl, ?yu0⟩) hH ?ru0
        case yu0 => (intro w' hSw; (try dsimp only at hSw); go_simp; try with_reducible rfl)
        try simp only [Act.put, List.setIfInBounds_toArray, List.set_cons_zero, List.set_cons_succ]
        refine wpAnyE_take (i := 1) (v := ?vu1) (by simp only [List.getElem?_toArray, List.getElem?_cons_succ, List.getElem?_cons_zero]; rfl) (by kernel_rfl) (by kernel_rfl) (by kernel_rfl) (by exact fun _ _ _ h => h) (by kernel_rfl) (Or.inl ⟨by rfl, ?yu1⟩) hH ?ru1
        case yu1 => (intro w' hSw; (try dsimp only at hSw); go_simp; try with_reducible rfl)
        try simp only [Act.put, List.setIfInBounds_toArray, List.set_cons_zero, List.set_cons_succ]
        refine wpAnyE_take (i := 2) (v := ?vu2) (by simp only [List.getElem?_toArray, List.getElem?_cons_succ, List.getElem?_cons_zero]; rfl) (by kernel_rfl) (by kernel_rfl) (by kernel_rfl) (by exact fun _ _ _ h => h) (by kernel_rfl) (Or.inl ⟨by rfl, ?yu2⟩) hH ?ru2
        case yu2 => (intro w' hSw; (try dsimp only at hSw); go_simp; try with_reducible rfl)
        try simp only [Act.put, List.setIfInBounds_toArray, List.set_cons_zero, List.set_cons_succ]
        refine wpAnyE_one (i := 3) (by kernel_rfl) (by simp only [List.getElem?_toArray, List.getElem?_cons_succ, List.getElem?_cons_zero]; rfl) (fun K hK => ?_)
        go_simp
        refine (l1Below_any g A n cap 5 _ (by omega) ?_).mono ?_
        · exact K7.cur
        rintro e w8 ⟨y, _, rfl, hcN, hgN⟩
        have K8 := K7.draw (grown_of_drew hgN) hcN
        have hv8 := K8.var.lt
        have vl8 := K8.Vl
        clear hH
        refine hK.out _ _ (K8.var.cell 3) (fun hH => ?_)
        clear hK K
        try simp only [Act.put, List.setIfInBounds_toArray, List.set_cons_zero, List.set_cons_succ]
        refine wpAnyE_take (i := 4) (v := ?vu4) (by simp only [List.getElem?_toArray, List.getElem?_cons_succ, List.getElem?_cons_zero]; rfl) (by kernel_rfl) (by kernel_rfl) (by kernel_rfl) (by exact fun _ _ _ h => h) (by kernel_rfl) (Or.inl ⟨by rfl, ?yu4⟩) hH ?ru4
        case yu4 => (intro w' hSw; (try dsimp only at hSw); go_simp; try with_reducible rfl)
        try simp only [Act.put, List.setIfInBounds_toArray, List.set_cons_zero, List.set_cons_succ]
        refine wpAnyE_one (i := 5) (by kernel_rfl) (by simp only [List.getElem?_toArray, List.getElem?_cons_succ, List.getElem?_cons_zero]; rfl) (fun K hK => ?_)
        go_simp
        clear hH
        refine hK.out _ _ ((K8.var.alloc _).cell 3) (fun hH => ?_)
        clear hK K
        try simp only [Act.put, List.setIfInBounds_toArray, List.set_cons_zero, List.set_cons_succ]
        refine wpAnyE_one (i := 6) (by kernel_rfl) (by simp only [List.getElem?_toArray, List.getElem?_cons_succ, List.getElem?_cons_zero]; rfl) (fun K hK => ?_)
        refine step_append_lies _ (by rfl) _ _ _ (by rfl) (w.heap.size + 2) 136 i0 _ 2 16 Tryz.underlying40 hi0 hz0 hz1 hz2 rfl (by omega) (.slice A3 ps.length c3) ps.length (flatP ps) (by rfl) (K8.ou.alloc _) ⟨w8.heap.size, 0, none⟩ 1 1 [.int .i64 y, .int .i64 0] (by rfl) (by rfl) (World.news_of_block (cs := #[.int .i64 y, .int .i64 0]) (t := 136) (fr := (0, 0)) (heap_alloc_new w8 _)) (by simp [Value.oneCell']) (by omega) (by unfold maxLen; omega) (by omega) (by simp; omega) (w8.heap.size + 1) (by simp) ?_
        intro gg cap2 wd hown2 hgrow2 hat hlt2
        have gd := grown_trans (grown_bel (bel_alloc w8 (.cells #[.int .i64 y, .int .i64 0] 136)) (Value.ownBlock (.slice A3 ps.length c3))) hgrow2
        have bd := K8.var.kept gd K8.uV
        clear hH
        refine hK.out _ _ (bd.cell 3) (fun hH => ?_)
        clear hK K
        try simp only [Act.put, List.setIfInBounds_toArray, List.set_cons_zero, List.set_cons_succ]
        refine wpAnyE_take (i := 7) (v := ?vu7) (by simp only [List.getElem?_toArray, List.getElem?_cons_succ, List.getElem?_cons_zero]; rfl) (by kernel_rfl) (by kernel_rfl) (by kernel_rfl) (by exact fun _ _ _ h => h) (by kernel_rfl) (Or.inl ⟨by rfl, ?yu7⟩) hH ?ru7
        case yu7 => (intro w' hSw; (try dsimp only at hSw); go_simp; try with_reducible rfl)
        try simp only [Act.put, List.setIfInBounds_toArray, List.set_cons_zero, List.set_cons_succ]
        have c4' := bd.cell 3
        have f4 := bd.frozen 3
        refine wpAnyE_last (by kernel_rfl) (by simp only [List.getElem?_toArray, List.getElem?_cons_succ, List.getElem?_cons_zero]; rfl) (by kernel_rfl) (fun K hK => ?_)
        go_simp
        refine hK.out _ _ ?_
        clear hK K
        try simp only [Act.put, List.setIfInBounds_toArray, List.set_cons_zero, List.set_cons_succ]
        have HK := Lib.hid (K8.pushU (u' := .slice (some ⟨gg, 0, none⟩) (ps.length + 1) cap2) (ps' := ps ++ [(y, 0)]) gd (by simpa [flatP_snoc] using hown2) (by rcases hat with h | h; exact .inl h; exact .inr ⟨gg, rfl, by omega⟩))
        clear K7 K8 bd gd hown2 hgrow2 hcN hgN x0 x1 x2 x3 x4 c4' f4
        go_wp2_with fail
        go_meet
        exact ⟨_, _, _, _, _, _, _, _, rfl, by simp; omega, by omega, HK.out⟩
      · go_wp2_with fail
        refine (l1From_any g A n cap (-1) 4 w7 (by omega) (by omega) (by omega) K7.cur).mono ?_
        rintro e w8 ⟨y, _, rfl, hcN, hgN⟩
        have K8 := K7.draw hgN hcN
        clear K7 hgN hcN
        go_wp2_with fail
        go_meet
        exact ⟨_, _, _, _, _, _, _, _, rfl, by omega, by omega, K8⟩
  case rest =>
  clear K6 x hx0 hx1 hps hos ps os a b d A3 A4 c3 c4
  obtain ⟨x, a, b, d, u, v, ps, os, rfl, hps, hos, K9⟩ := hcut
  obtain ⟨w9, rfl⟩ : ∃ x, x = wc := ⟨_, rfl⟩
  obtain ⟨A3, c3, rfl⟩ := own_form K9.ou
  obtain ⟨A4, c4, rfl⟩ := own_form K9.ov
  obtain ⟨d0, d1, d2, d3, d4⟩ := K9.gr.five
  obtain ⟨x0, x1, x2, x3, x4⟩ := K9.var.five
  obtain ⟨e0, e1, e2, e3, e4⟩ := K9.r1.five
  obtain ⟨t0, t1, t2, t3, t4⟩ := K9.r2.five
  have f1 := K9.r1.frozen
  have f2 := K9.r2.frozen
  have ul := K9.Ul
  have vl := K9.Vl
  have n1 : U ≠ w.heap.size := by omega
  have n2 : U ≠ w.heap.size + 1 := by omega
  have n3 : V ≠ w.heap.size := by omega
  have n4 : V ≠ w.heap.size + 1 := by omega
  have n1' : w.heap.size ≠ U := by omega
  have n2' : w.heap.size + 1 ≠ U := by omega
  have n3' : w.heap.size ≠ V := by omega
  have n4' : w.heap.size + 1 ≠ V := by omega
  have HK := Lib.hid (K9.fin hok.out hs6 hc3 hml hps hos x)
  clear K9
  go_wp2_with fail
  go_region
  go_wp2
  exact bodyPost_ret (v := .tuple #[.agg #[.int .i64 s, .int .i64 l, .int .i64 c, .int .i64 sh, .slice (some ⟨q, 0, none⟩) m cap'], .int .i64 x, .agg #[.int .i64 a, .int .i64 b, .int .i64 d, .slice A3 ps.length c3, .slice A4 os.length c4]]) (by simp [results, Tryz.results165, go_sem, e0, e1, e2, e3, e4, t0, t1, t2, t3, t4]) rfl (HK.out _ _ _ _ _ _ _ _ _ _)

end Go.Proofs.YtjdepjpjjgkmbaaGreat
