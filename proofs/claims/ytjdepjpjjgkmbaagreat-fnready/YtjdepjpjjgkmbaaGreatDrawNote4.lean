/- What the model's draw of a group and a note out of the code leaves; the bytes can be read (written by draw_any.py). -/
import Derived.Test.YtjdepjpjjgkmbaaGreatDrawNote2
import Derived.Test.YtjdepjpjjgkmbaaGreatDrawNote1
namespace Go.Proofs.YtjdepjpjjgkmbaaGreat
open Go.RowKit

/-- What the draw of a group and a note leaves. -/
def DrawnGN (g : Nat) (A : Option Addr) (n cap : Nat) (w : World) (e : Ending) (w' : World) : Prop :=
  ∃ (s l c sh : Int) (q o m cap' : Nat) (zs : List Int) (N : Array Value) (cv mv : Value), e = .returned (.tuple #[.agg #[.int .i64 s, .int .i64 l, .int .i64 c, .int .i64 sh, .slice (some ⟨q, o, none⟩) m cap'], .agg N]) ∧ Row w' w'.heap.size (some ⟨q, o, none⟩) m zs ∧ m ≤ 100 ∧ w.heap.size + 2 ≤ q ∧ Shape N cv mv ∧ Lst w' (w.heap.size + 2) 21 cv ∧ Lst w' (w.heap.size + 2) 20 mv ∧ Cur w' 169 .i64 g A n cap ∧ w.grownBy w' (some g)


/-- Does this code begin with the region of this number? -/
def leads (n : Nat) : Code → Bool
  | .region k _ _ => k == n
  | .seq a _ => leads n a
  | _ => false
/-- The code from the region of this number on. -/
def fromRegion (n : Nat) : Code → Option Code
  | .seq a b => if leads n a then some (.seq a b) else fromRegion n b
  | _ => none
/-- What of the draw stands behind the making of the note. -/
noncomputable def l5DrawAnyTail : Code := ((Tryz.f164.body.bind (fromRegion 3)).getD .skip)

set_option maxRecDepth 100000 in
set_option maxHeartbeats 8000000 in
theorem l5DrawAny_tail (g : Nat) (A : Option Addr) (n cap : Nat) (w : World) (U V : Nat) (s l c sh : Int) (q m cap' : Nat) (zs : List Int) (N : Array Value) (cv mv : Value) (o : Nat) (w3 : World) (K3 : NAs w w3 g A n cap U V s l c sh q o m cap' zs N cv mv 20)
    (u6 u7 u8 u9 u10 u11 u12 u13 u14 u15 u16 u17 u18 u19 u22 u23 u24 u25 u27 u28 u29 u30 u32 u33 u34 u35 u37 u38 u39 u40 u42 u43 u44 u45 u47 u48 u49 u50 u52 u53 u54 u55 u57 u58 u59 u60 u61 u62 u63 u64 u65 u66 u67 u68 u69 u71 u72 u73 u74 u75 u76 : Value) : Code.wp Tryz.prog l5DrawAnyTail (bodyPost Tryz.prog Tryz.f164 (DrawnGN g A n cap w)) ⟨#[.pointer (some ⟨g, 0, none⟩), undef, .pointer (some ⟨w.heap.size, 0, none⟩), .pointer (some ⟨w.heap.size + 1, 0, none⟩), .pointer (some ⟨U, 0, none⟩), .pointer (some ⟨V, 0, none⟩), u6, u7, u8, u9, u10, u11, u12, u13, u14, u15, u16, u17, u18, u19, undef, undef, u22, u23, u24, u25, undef, u27, u28, u29, u30, undef, u32, u33, u34, u35, undef, u37, u38, u39, u40, undef, u42, u43, u44, u45, undef, u47, u48, u49, u50, undef, u52, u53, u54, u55, undef, u57, u58, u59, u60, u61, u62, u63, u64, u65, u66, u67, u68, u69, undef, u71, u72, u73, u74, u75, u76], []⟩ w3 := by
  obtain ⟨i0, hi0, hz0, hz1, hz2⟩ := info_parts Tryz.infoSealI
  conv => arg 2; whnf
  go_wp2_with fail
  refine (l1Once_any g A n cap 12 w3 (by omega) K3.cur).mono ?_
  rintro e w4 ⟨b, rfl, hcN, hgN⟩
  have K4 := K3.draw hgN hcN
  clear K3 hgN hcN
  go_upto_if 14 with fail
  go_cut [16] (fun _ wr => ∃ s l c sh q o m cap' zs, NAs w wr g A n cap U V s l c sh q o m cap' zs N cv mv 20)
  case first => as_aux_lemma =>
    rcases b with _ | _
    · go_wp2_with fail
      go_meet
      exact ⟨_, _, _, _, _, _, _, _, _, K4⟩
    · go_wp2_with fail
      refine (l1DrawAny_any g A n cap w4 K4.cur).mono ?_
      rintro e w5 ⟨s', l', c', sh', q', o', m', cap2, zs', hq', rfl, hr', hm', hcN, hgN⟩
      have K5 := K4.draw hgN hcN
      obtain ⟨d0, d1, d2, d3, d4⟩ := K5.gr.five
      have fg := K5.gr.frozen
      have HK := Lib.hid (K4.group (s' := s') (l' := l') (c' := c') (sh' := sh') (cap2 := cap2) hgN hcN hq' hr' hm')
      clear K4 K5 hgN hcN
      go_wp2_with fail
      go_meet
      exact ⟨_, _, _, _, _, _, _, _, _, HK.out⟩
  case rest =>
  clear K4
  obtain ⟨s, l, c, sh, q, o, m, cap', zs, K5⟩ := hcut
  obtain ⟨w5, rfl⟩ : ∃ x, x = wc := ⟨_, rfl⟩
  go_wp2_with fail
  refine (l1Once_any g A n cap 4 w5 (by omega) K5.cur).mono ?_
  rintro e w6 ⟨b, rfl, hcN, hgN⟩
  have K6 := K5.draw hgN hcN
  clear K5 hgN hcN
  go_upto_if 18 with fail
  go_cut [20] (fun _ wr => ∃ N cv, NAs w wr g A n cap U V s l c sh q o m cap' zs N cv mv 21)
  case first => as_aux_lemma =>
    rcases b with _ | _
    · go_wp2_with fail
      go_meet
      exact ⟨_, _, { K6 with cer := K6.cer.more (by omega) }⟩
    · go_wp2_with fail
      refine (l1Below_any g A n cap 9 w6 (by omega) K6.cur).mono ?_
      rintro e w7 ⟨z, ⟨hz0', hz1'⟩, rfl, hcN, hgN⟩
      have K7 := K6.draw hgN hcN
      clear K6 hcN hgN
      have hcase : z = 0 ∨ z = 1 ∨ z = 2 ∨ z = 3 ∨ z = 4 ∨ z = 5 ∨ z = 6 ∨ z = 7 ∨ z = 8 := by omega
      clear hz0' hz1'
      rcases hcase with rfl | rfl | rfl | rfl | rfl | rfl | rfl | rfl | rfl
      · have cN := K7.var.cell
        have fr := K7.var.frozen
        obtain ⟨x0, n0⟩ := K7.shp.num (i := 0) (by simp [isNum])
        go_wp2_with fail
        refine (l1From_any g A n cap (0) 7 w7 (by omega) (by omega) (by omega) K7.cur).mono ?_
        rintro e w8 ⟨y, _, rfl, hcN, hgN⟩
        have K8 := K7.draw hgN hcN
        clear K7 hgN hcN
        clear cN fr n0
        have cN := K8.var.cell
        have fr := K8.var.frozen
        obtain ⟨x0, n0⟩ := K8.shp.num (i := 0) (by simp [isNum])
        have HK := Lib.hid (K8.put 0 (by simp [isNum]) y)
        clear K8
        go_wp2_with fail
        go_meet
        exact ⟨_, _, { HK.out with cer := HK.out.cer.more (by omega) }⟩
      · have cN := K7.var.cell
        have fr := K7.var.frozen
        obtain ⟨x1, n1⟩ := K7.shp.num (i := 1) (by simp [isNum])
        go_wp2_with fail
        refine (l1From_any g A n cap (-1) 9 w7 (by omega) (by omega) (by omega) K7.cur).mono ?_
        rintro e w8 ⟨y, _, rfl, hcN, hgN⟩
        have K8 := K7.draw hgN hcN
        clear K7 hgN hcN
        clear cN fr n1
        have cN := K8.var.cell
        have fr := K8.var.frozen
        obtain ⟨x1, n1⟩ := K8.shp.num (i := 1) (by simp [isNum])
        have HK := Lib.hid (K8.put 1 (by simp [isNum]) y)
        clear K8
        go_wp2_with fail
        go_meet
        exact ⟨_, _, { HK.out with cer := HK.out.cer.more (by omega) }⟩
      · have cN := K7.var.cell
        have fr := K7.var.frozen
        obtain ⟨x2, n2⟩ := K7.shp.num (i := 2) (by simp [isNum])
        go_wp2_with fail
        refine (l1From_any g A n cap (-1) 9 w7 (by omega) (by omega) (by omega) K7.cur).mono ?_
        rintro e w8 ⟨y, _, rfl, hcN, hgN⟩
        have K8 := K7.draw hgN hcN
        clear K7 hgN hcN
        clear cN fr n2
        have cN := K8.var.cell
        have fr := K8.var.frozen
        obtain ⟨x2, n2⟩ := K8.shp.num (i := 2) (by simp [isNum])
        have HK := Lib.hid (K8.put 2 (by simp [isNum]) y)
        clear K8
        go_wp2_with fail
        go_meet
        exact ⟨_, _, { HK.out with cer := HK.out.cer.more (by omega) }⟩
      · have cN := K7.var.cell
        have fr := K7.var.frozen
        obtain ⟨x3, n3⟩ := K7.shp.num (i := 3) (by simp [isNum])
        go_wp2_with fail
        refine (l1Num_any g A n cap 100000 w7 (by omega) (by omega) K7.cur).mono ?_
        rintro e w8 ⟨y, _, rfl, hcN, hgN⟩
        have K8 := K7.draw hgN hcN
        clear K7 hgN hcN
        clear cN fr n3
        have cN := K8.var.cell
        have fr := K8.var.frozen
        obtain ⟨x3, n3⟩ := K8.shp.num (i := 3) (by simp [isNum])
        have HK := Lib.hid (K8.put 3 (by simp [isNum]) y)
        clear K8
        go_wp2_with fail
        go_meet
        exact ⟨_, _, { HK.out with cer := HK.out.cer.more (by omega) }⟩
      · have cN := K7.var.cell
        have fr := K7.var.frozen
        obtain ⟨x4, n4⟩ := K7.shp.num (i := 4) (by simp [isNum])
        go_wp2_with fail
        refine (l1Num_any g A n cap 3 w7 (by omega) (by omega) K7.cur).mono ?_
        rintro e w8 ⟨y, _, rfl, hcN, hgN⟩
        have K8 := K7.draw hgN hcN
        clear K7 hgN hcN
        clear cN fr n4
        have cN := K8.var.cell
        have fr := K8.var.frozen
        obtain ⟨x4, n4⟩ := K8.shp.num (i := 4) (by simp [isNum])
        have HK := Lib.hid (K8.put 4 (by simp [isNum]) y)
        clear K8
        go_wp2_with fail
        go_meet
        exact ⟨_, _, { HK.out with cer := HK.out.cer.more (by omega) }⟩
      · have cN := K7.var.cell
        have fr := K7.var.frozen
        obtain ⟨x7, n7⟩ := K7.shp.num (i := 7) (by simp [isNum])
        go_wp2_with fail
        refine (l1Num_any g A n cap 9999 w7 (by omega) (by omega) K7.cur).mono ?_
        rintro e w8 ⟨y, _, rfl, hcN, hgN⟩
        have K8 := K7.draw hgN hcN
        clear K7 hgN hcN
        clear cN fr n7
        have cN := K8.var.cell
        have fr := K8.var.frozen
        obtain ⟨x7, n7⟩ := K8.shp.num (i := 7) (by simp [isNum])
        have HK := Lib.hid (K8.put 7 (by simp [isNum]) y)
        clear K8
        go_wp2_with fail
        go_meet
        exact ⟨_, _, { HK.out with cer := HK.out.cer.more (by omega) }⟩
      · have cN := K7.var.cell
        have fr := K7.var.frozen
        obtain ⟨x5, n5⟩ := K7.shp.num (i := 5) (by simp [isNum])
        obtain ⟨x6, n6⟩ := K7.shp.num (i := 6) (by simp [isNum])
        go_wp2_with fail
        refine (l2DrawAny_any g A n cap w7 K7.cur).mono ?_
        rintro e w8 ⟨y, y2, rfl, hcN, hgN⟩
        have K8 := K7.draw hgN hcN
        clear K7 hgN hcN
        clear cN fr n5 n6
        have cN := K8.var.cell
        have fr := K8.var.frozen
        obtain ⟨x5, n5⟩ := K8.shp.num (i := 5) (by simp [isNum])
        obtain ⟨x6, n6⟩ := K8.shp.num (i := 6) (by simp [isNum])
        have HK := Lib.hid ((K8.put 5 (by simp [isNum]) y).put 6 (by simp [isNum]) y2)
        clear K8
        go_wp2_with fail
        go_meet
        exact ⟨_, _, { HK.out with cer := HK.out.cer.more (by omega) }⟩
      · obtain ⟨ps, hl, ho⟩ := K7.cer
        have hq : ∀ b, cv.ownBlock = some b → w.heap.size + 2 ≤ b := fun b e => (ho.lt b e).1
        have HQ := Lib.hid hq
        have gl := K7.gl
        have vl := K7.Vl
        have hw : IntKind.i64.wrap 2147483646 = 2147483646 := by decide
        have c11 := K7.at11
        have f11 := K7.var.frozen 11
        clear hq
        go_wp2_with fail
        go_region_law (first
            | (go_simp; go_at_call 206; refine (l3M_any _).mono ?_; rintro e w' ⟨rfl, rfl⟩)
            | (go_simp; go_at_call 138; (with_reducible refine (l1Num_any g A n cap 9 _ (by omega) (by omega) ?_).mono ?_); exact K7.cur; rintro e wa ⟨ya, _, rfl, hca, hga⟩; have Ka := K7.draw (grown_of_drew hga) hca; have ca := Ka.at11; have fa := Ka.var.frozen 11; have oa := ho.kept (grown_of_drew hga) (Or.inr (fun e => by have := HQ.out _ e; omega)))
            | (go_simp; go_at_call 138; (with_reducible refine (l1Num_any g A n cap 2147483646 _ (by omega) (by omega) ?_).mono ?_); exact Ka.cur; rintro e wb ⟨yb, _, rfl, hcb, hgb⟩; have Kb := Ka.draw hgb hcb; have cb := Kb.at11; have fb := Kb.var.frozen 11; have cbn := fun o => Kb.new11 o; have ob := oa.kept hgb (Or.inr (fun e => by have := HQ.out _ e; omega)); have hsb := Kb.grw.size; have hvb := Kb.var.lt)
            | (refine step_append_lies _ (by rfl) _ _ _ (by rfl) (w.heap.size + 2) 136 i0 _ 2 16 Tryz.underlying40 hi0 hz0 hz1 hz2 rfl (by omega) cv ps.length (flatP ps) (by rfl) (ob.alloc _) ⟨wb.heap.size, 0, none⟩ 1 1 [.int .i64 ya, .int .i64 yb] (by rfl) (by rfl) (World.news_of_block (cs := #[.int .i64 ya, .int .i64 yb]) (t := 136) (fr := (0, 0)) (heap_alloc_new wb _)) (by simp [Value.oneCell']) (by omega) (by unfold maxLen; omega) (by omega) (by simp; omega) (wb.heap.size + 1) (by simp) ?_; intro gg cap2 wd hown2 hgrow2 hat hlt2; have gd := grown_trans (grown_bel (bel_alloc wb (.cells #[.int .i64 ya, .int .i64 yb] 136)) cv.ownBlock) hgrow2; have bd := Kb.var.kept gd Kb.cV; have cd := (bd.cell 11).trans Kb.shp.at11; have fd := bd.frozen 11))
        all_goals
          have HK := Lib.hid (Kb.cert (v := .slice (some ⟨gg, 0, none⟩) (ps.length + 1) cap2) (k' := 21) gd ⟨ps ++ [(ya, yb)], by simp; omega, by simpa [flatP_snoc] using hown2⟩ (by rcases hat with h | h; exact .inl h; exact .inr ⟨gg, rfl, by omega⟩))
          clear K7 Ka Kb ca fa cb fb cbn oa ob gd bd hown2 hgrow2 hca hga hcb hgb
          go_wp2_with fail
          go_meet
          exact ⟨_, _, HK.out⟩
      · have cN := K7.var.cell
        have fr := K7.var.frozen
        obtain ⟨x10, n10⟩ := K7.shp.num (i := 10) (by simp [isNum])
        go_wp2_with fail
        refine (l1Num_any g A n cap 9999 w7 (by omega) (by omega) K7.cur).mono ?_
        rintro e w8 ⟨y, _, rfl, hcN, hgN⟩
        have K8 := K7.draw hgN hcN
        clear K7 hgN hcN
        clear cN fr n10
        have cN := K8.var.cell
        have fr := K8.var.frozen
        obtain ⟨x10, n10⟩ := K8.shp.num (i := 10) (by simp [isNum])
        have HK := Lib.hid (K8.put 10 (by simp [isNum]) y)
        clear K8
        go_wp2_with fail
        go_meet
        exact ⟨_, _, { HK.out with cer := HK.out.cer.more (by omega) }⟩
  case rest =>
  clear K6 N cv
  obtain ⟨N, cv, K9⟩ := hcut
  obtain ⟨w9, rfl⟩ : ∃ x, x = wc := ⟨_, rfl⟩
  have hsh := K9.shp
  obtain ⟨k1, k2, k3, k4, k5, t1, t2, v1, o1, o2, v2, e1, e2, v3, hN⟩ := hsh
  obtain ⟨P, p, pc, _, hP, _, _⟩ := K9.cer.pairs
  obtain ⟨Q, q', qc, _, hQ, _, _⟩ := K9.mor.pairs
  subst hP
  subst hQ
  subst hN
  obtain ⟨d0, d1, d2, d3, d4⟩ := K9.gr.five
  obtain ⟨a0, a1, a2, a3, a4, a5, a6, a7, a8, a9, a10, a11, a12, a13, a14, a15⟩ := sixteen K9.var
  obtain ⟨r0, r1, r2, r3, r4⟩ := Box.five (show Box w9 w.heap.size 26 #[.int .i64 0, .int .i64 0, .int .i64 0, .int .i64 0, .slice none 0 0] from K9.r1)
  obtain ⟨b0, b1, b2, b3, b4, b5, b6, b7, b8, b9, b10, b11, b12, b13, b14, b15⟩ := sixteen (show Box w9 (w.heap.size + 1) 85 #[.int .i64 0, .int .i64 0, .int .i64 0, .int .i64 0, .int .i64 0, .int .i64 0, .int .i64 0, .int .i64 0, .int .i64 0, .int .i64 0, .int .i64 0, .slice none 0 0, .slice none 0 0, .int .i64 0, .int .i64 0, .int .i64 0] from K9.r2)
  have f1 := K9.r1.frozen
  have f2 := K9.r2.frozen
  have ul := K9.Ul
  have vl := K9.Vl
  have n1 : U ≠ w.heap.size := by omega
  have n2 : U ≠ w.heap.size + 1 := by omega
  have n3 : V ≠ w.heap.size := by omega
  have n4 : V ≠ w.heap.size + 1 := by omega
  have n1' : w.heap.size ≠ U := by omega
  have n2' : w.heap.size + 1 ≠ U := by omega
  have n3' : w.heap.size ≠ V := by omega
  have n4' : w.heap.size + 1 ≠ V := by omega
  have G1 := Lib.hid (grown5 w9 w.heap.size (.int .i64 s) (.int .i64 l) (.int .i64 c) (.int .i64 sh) (.slice (some ⟨q, o, none⟩) m cap'))
  have HK := Lib.hid K9
  clear K9
  go_wp2_with fail
  go_region
  go_wp2
  have F := HK.out.fin G1.out (grown_drew (cgrown16 _ (w.heap.size + 1) (.int .i64 k1) (.int .i64 k2) (.int .i64 k3) (.int .i64 k4) (.int .i64 k5) (.int .i64 t1) (.int .i64 t2) (.int .i64 v1) (.int .i64 o1) (.int .i64 o2) (.int .i64 v2) (.slice P p pc) (.slice Q q' qc) (.int .i64 e1) (.int .i64 e2) (.int .i64 v3)))
  exact bodyPost_ret (v := .tuple #[.agg #[.int .i64 s, .int .i64 l, .int .i64 c, .int .i64 sh, .slice (some ⟨q, o, none⟩) m cap'], .agg #[.int .i64 k1, .int .i64 k2, .int .i64 k3, .int .i64 k4, .int .i64 k5, .int .i64 t1, .int .i64 t2, .int .i64 v1, .int .i64 o1, .int .i64 o2, .int .i64 v2, .slice P p pc, .slice Q q' qc, .int .i64 e1, .int .i64 e2, .int .i64 v3]]) (by simp [results, Tryz.results164, go_sem, r0, r1, r2, r3, r4, b0, b1, b2, b3, b4, b5, b6, b7, b8, b9, b10, b11, b12, b13, b14, b15]) rfl
    ⟨s, l, c, sh, q, o, m, cap', zs, _, _, _, rfl, F.1, HK.out.hm, HK.out.q2, HK.out.shp, F.2.1, F.2.2.1, F.2.2.2.1, F.2.2.2.2⟩

set_option maxRecDepth 100000 in
set_option maxHeartbeats 8000000 in
theorem l5DrawAny_any (g : Nat) (A : Option Addr) (n cap : Nat) (w : World) (hc : Cur w 169 .i64 g A n cap) :
    Calls Tryz.prog 164 #[.pointer (some ⟨g, 0, none⟩)] w (DrawnGN g A n cap w) := by
  obtain ⟨i0, hi0, hz0, hz1, hz2⟩ := info_parts Tryz.infoSealI
  have hgl := hc.lt
  have E0 := bel_trans (bel_alloc w (.cells ZG 26)) (bel_alloc _ (.cells ZN 85))
  have R1 := (Box.new w 26 ZG).alloc (.cells ZN 85)
  have R2 := Box.new (w.alloc (.cells ZG 26)) 85 ZN
  simp only [World.size_alloc] at R2
  have hc0 := hc.kept (grown_bel E0 none) (fun q hq => by cases hq)
  clear hc
  go_enter Tryz.func164, Tryz.ntmps164
  go_upto_region 1 with fail
  rw [show (#[.int .i64 0, .int .i64 0, .int .i64 0, .int .i64 0, .int .i64 0, .int .i64 0, .int .i64 0, .int .i64 0, .int .i64 0, .int .i64 0, .int .i64 0, .slice none 0 0, .slice none 0 0, .int .i64 0, .int .i64 0, .int .i64 0] : Array Value) = ZN from rfl, show (#[.int .i64 0, .int .i64 0, .int .i64 0, .int .i64 0, .slice none 0 0] : Array Value) = ZG from rfl]
  generalize ((w.alloc _).alloc _ : World) = w0 at E0 R1 R2 hc0 ⊢
  go_wp2_with fail
  refine (l1DrawGroup_any g A n cap w0 hc0).mono ?_
  rintro e w1 ⟨s, l, c, sh, q, cap', zs, rfl, hown, hok, hs6, hc3, hc1, hg1⟩
  have hrow1 := own_row hown
  have hq1 := hown.lt q rfl
  have hz := R2.lt
  clear hown
  have hml : zs.length ≤ 100 := by
    have h := hok
    simp only [okB, Bool.and_eq_true, decide_eq_true_eq] at h
    have := h.1.2
    omega
  generalize hM : zs.length = m at hrow1 hml
  clear hM
  have U2 := Box.new w1 26 #[.int .i64 s, .int .i64 l, .int .i64 c, .int .i64 sh, .slice (some ⟨q, 0, none⟩) m cap']
  have hb2 := bel_alloc w1 (.cells #[.int .i64 s, .int .i64 l, .int .i64 c, .int .i64 sh, .slice (some ⟨q, 0, none⟩) m cap'] 26)
  have G2 := grown_trans (grown_bel E0 (some g)) (grown_trans hg1 (grown_bel hb2 _))
  have S1 := (R1.kept hg1 (by intro e; injection e with e; omega)).later hb2 (by have := (R1.kept hg1 (by intro e; injection e with e; omega)).lt; omega)
  have S2 := (R2.kept hg1 (by intro e; injection e with e; omega)).later hb2 (by have := (R2.kept hg1 (by intro e; injection e with e; omega)).lt; omega)
  have r2 := (hrow1.below hb2 (Nat.le_refl _)).more hb2.size
  have hc2 := hc1.kept (grown_bel hb2 none) (fun q hq => by cases hq)
  have hs1 := hg1.size
  have hs2 := hb2.size
  have hul := U2.lt
  clear R1 R2 hc0 hc1 hg1 hrow1 hb2
  go_upto_region 2 with fail
  generalize (w1.alloc _ : World) = w2 at U2 G2 S1 S2 r2 hc2 hs2 hul ⊢
  obtain ⟨U, hU⟩ : ∃ U, U = w1.heap.size := ⟨_, rfl⟩
  rw [← hU] at U2 hul hs2 hs1 hq1 ⊢
  have hUl : w.heap.size + 2 ≤ U := by have := E0.size; omega
  have hq2 : w.heap.size + 2 ≤ q := by omega
  have hqU : q ≠ U := by omega
  have hql : q < w2.heap.size := by omega
  have hgq : g ≠ q := by omega
  clear hU E0
  have HM : Hid (m ≤ maxLen) := by show m ≤ maxLen; unfold maxLen; omega
  replace hok := Lib.hid hok
  go_cut [5] (fun v wr => ∃ V N cv mv, v = .pointer (some ⟨V, 0, none⟩) ∧ NAs w wr g A n cap U V s l c sh q 0 m cap' zs N cv mv 20)
  case first =>
    obtain ⟨d0, d1, d2, d3, d4⟩ := U2.five
    have q1 : w2.heap.size ≠ U := by omega
    go_wp2_with fail
    go_region_held3 (fun w' => w'.cell? ⟨U, 0, none⟩ = some (.int .i64 s) ∧ w'.cell? ⟨U, 1, none⟩ = some (.int .i64 l) ∧ w'.cell? ⟨U, 2, none⟩ = some (.int .i64 c) ∧ w'.cell? ⟨U, 3, none⟩ = some (.int .i64 sh) ∧ w'.cell? ⟨U, 4, none⟩ = some (.slice (some ⟨q, 0, none⟩) m cap'))
      (first | (with_reducible exact K4) | (with_reducible exact K3) | (with_reducible exact (U4.alloc _).five) | (with_reducible exact (U3.alloc _).five) | (with_reducible exact (cfar16 U4 q1 _ _ _ _ _ _ _ _ _ _ _ _ _ _ _ _).five) | (with_reducible exact (cfar16 U4 q2 _ _ _ _ _ _ _ _ _ _ _ _ _ _ _ _).five) | go_keep)
      (first
        | (go_at_call 139; (with_reducible refine (l1From_any g A n cap 1 6 _ (by omega) (by omega) (by omega) ?_).mono ?_); (first | exact hc2 | exact curNew hc2 _); rintro e w3 ⟨kd, ⟨hk1, hk6⟩, rfl, hc3', hg3⟩; (first | (have B3 := gbox_of_alloc (grown_of_drew hg3) (by omega); have F3 := grown_of_alloc (grown_of_drew hg3)) | have F3 := grown_of_drew hg3); have U3 := U2.kept F3 (by intro e; injection e with e; omega); have K3 := U3.five; have r3 := r2.kept F3 (by intro e; injection e with e; omega); have l3 := F3.size; have q2 : w3.heap.size ≠ U := (by omega))
        | (go_at_call 160; (with_reducible refine (l5Draw_any g A n cap s l c sh q 0 m cap' zs kd _ hk1 hk6 HM.out hok.out ?_ ?_ hgq).mono ?_); (first | exact hc3' | exact curNew hc3' _); (first | exact r3 | exact rowNew r3 _); rintro e w4 ⟨N, cv, mv, rfl, hsh, hcer, hmor, hcm, hc4, hg4⟩; (first | (have B4 := gbox_of_alloc hg4 (by omega); have F4 := grown_of_alloc hg4) | (have B4 := B3.kept hg4 (by intro e; injection e with e; omega); have F4 := hg4) | have F4 := hg4); obtain ⟨k1, k2, k3, k4, k5, t1, t2, v1, o1, o2, v2, e1, e2, v3, hN⟩ := hsh; obtain ⟨P, p, pc, _, hP, _, _⟩ := hcer.pairs; obtain ⟨Q, q', qc, _, hQ, _, _⟩ := hmor.pairs; subst hP; subst hQ; subst hN; have U4 := U3.kept F4 (by intro e; injection e with e; omega); have K4 := U4.five; have G4 := grown_trans F3 F4; have l4 := F4.size; have X4 := hcer.base (B' := w2.heap.size + 2) (by first | omega | (simp only [World.size_alloc]; omega) | (simp; omega) | simp); have Y4 := hmor.base (B' := w2.heap.size + 2) (by first | omega | (simp only [World.size_alloc]; omega) | (simp; omega) | simp); (first | (obtain ⟨b0, b1, b2, b3, b4, b5, b6, b7, b8, b9, b10, b11, b12, b13, b14, b15⟩ := sixteen B4; have fb := B4.frozen) | skip)))
    all_goals go_wp2_with fail
    all_goals go_meet
    all_goals first
      | (have B' : Box w4 w3.heap.size 85 _ := (by with_reducible exact B4); exact NAs.mk16 hgl G2 S1 S2 U2 r2 hml hq2 hql hqU hUl G4 hc4 (by omega) B' ⟨k1, k2, k3, k4, k5, t1, t2, v1, o1, o2, v2, e1, e2, v3, rfl⟩ X4 Y4 (ne_of_lt hcer (by first | omega | (simp only [World.size_alloc]; omega) | (simp; omega) | simp)) (ne_of_lt hmor (by first | omega | (simp only [World.size_alloc]; omega) | (simp; omega) | simp)) hcm)
      | (have B' : Box w4 w2.heap.size 85 _ := (by with_reducible exact B4); exact NAs.mk16 hgl G2 S1 S2 U2 r2 hml hq2 hql hqU hUl G4 hc4 (by omega) B' ⟨k1, k2, k3, k4, k5, t1, t2, v1, o1, o2, v2, e1, e2, v3, rfl⟩ X4 Y4 (ne_of_lt hcer (by first | omega | (simp only [World.size_alloc]; omega) | (simp; omega) | simp)) (ne_of_lt hmor (by first | omega | (simp only [World.size_alloc]; omega) | (simp; omega) | simp)) hcm)
      | exact NAs.mk1 hgl G2 S1 S2 U2 r2 hml hq2 hql hqU hUl (grown_alloc G4 _) (curNew hc4 _) (by omega) (Box.new w4 _ _) ⟨k1, k2, k3, k4, k5, t1, t2, v1, o1, o2, v2, e1, e2, v3, rfl⟩ (X4.bel (bel_alloc _ _)) (Y4.bel (bel_alloc _ _)) (fun e => by have := (hcer.lt _ e).2; omega) (fun e => by have := (hmor.lt _ e).2; omega) hcm
  case rest =>
  obtain ⟨V, N, cv, mv, rfl, K3⟩ := hcut
  rename_i K hK
  exact hK _ _ (l5DrawAny_tail _ _ _ _ _ _ _ _ _ _ _ _ _ _ _ _ _ _ _ wc K3 _ _ _ _ _ _ _ _ _ _ _ _ _ _ _ _ _ _ _ _ _ _ _ _ _ _ _ _ _ _ _ _ _ _ _ _ _ _ _ _ _ _ _ _ _ _ _ _ _ _ _ _ _ _ _ _ _ _ _ _ _)

end Go.Proofs.YtjdepjpjjgkmbaaGreat
