/- What the model's draw of a note leaves: its shape and its lists; the bytes can be read. -/
import Derived.Test.YtjdepjpjjgkmbaaGreatDrawNote1
import Derived.Test.YtjdepjpjjgkmbaaGreatSpecNote1
namespace Go.Proofs.YtjdepjpjjgkmbaaGreat
open Go.RowKit

theorem put16 {w : World} {g : Nat} {t : TypeId} {z0 z1 z2 z3 z4 z5 z6 z7 z8 z9 z10 z11 z12 z13 z14 z15 : Value} (h : Box w g t #[z0, z1, z2, z3, z4, z5, z6, z7, z8, z9, z10, z11, z12, z13, z14, z15]) (u0 u1 u2 u3 u4 u5 u6 u7 u8 u9 u10 u11 u12 u13 u14 u15 : Value) :
    Box ((((((((((((((((w.setCell ⟨g, 0, none⟩ u0).setCell ⟨g, 1, none⟩ u1).setCell ⟨g, 2, none⟩ u2).setCell ⟨g, 3, none⟩ u3).setCell ⟨g, 4, none⟩ u4).setCell ⟨g, 5, none⟩ u5).setCell ⟨g, 6, none⟩ u6).setCell ⟨g, 7, none⟩ u7).setCell ⟨g, 8, none⟩ u8).setCell ⟨g, 9, none⟩ u9).setCell ⟨g, 10, none⟩ u10).setCell ⟨g, 11, none⟩ u11).setCell ⟨g, 12, none⟩ u12).setCell ⟨g, 13, none⟩ u13).setCell ⟨g, 14, none⟩ u14).setCell ⟨g, 15, none⟩ u15) g t #[u0, u1, u2, u3, u4, u5, u6, u7, u8, u9, u10, u11, u12, u13, u14, u15] := by
  have h := (((((((((((((((h.set 0 u0).set 1 u1).set 2 u2).set 3 u3).set 4 u4).set 5 u5).set 6 u6).set 7 u7).set 8 u8).set 9 u9).set 10 u10).set 11 u11).set 12 u12).set 13 u13).set 14 u14).set 15 u15
  simp only [List.setIfInBounds_toArray, List.set_cons_zero, List.set_cons_succ] at h
  exact h
theorem grown16 (w : World) (g : Nat) (u0 u1 u2 u3 u4 u5 u6 u7 u8 u9 u10 u11 u12 u13 u14 u15 : Value) :
    w.grownBy ((((((((((((((((w.setCell ⟨g, 0, none⟩ u0).setCell ⟨g, 1, none⟩ u1).setCell ⟨g, 2, none⟩ u2).setCell ⟨g, 3, none⟩ u3).setCell ⟨g, 4, none⟩ u4).setCell ⟨g, 5, none⟩ u5).setCell ⟨g, 6, none⟩ u6).setCell ⟨g, 7, none⟩ u7).setCell ⟨g, 8, none⟩ u8).setCell ⟨g, 9, none⟩ u9).setCell ⟨g, 10, none⟩ u10).setCell ⟨g, 11, none⟩ u11).setCell ⟨g, 12, none⟩ u12).setCell ⟨g, 13, none⟩ u13).setCell ⟨g, 14, none⟩ u14).setCell ⟨g, 15, none⟩ u15) (some g) :=
  grown_set (grown_set (grown_set (grown_set (grown_set (grown_set (grown_set (grown_set (grown_set (grown_set (grown_set (grown_set (grown_set (grown_set (grown_set (grown_set (grown_refl w _) 0 u0) 1 u1) 2 u2) 3 u3) 4 u4) 5 u5) 6 u6) 7 u7) 8 u8) 9 u9) 10 u10) 11 u11) 12 u12) 13 u13) 14 u14) 15 u15

theorem far16 {w : World} {g R : Nat} {t : TypeId} {cs : Array Value} (h : Box w g t cs) (hR : R ≠ g) (u0 u1 u2 u3 u4 u5 u6 u7 u8 u9 u10 u11 u12 u13 u14 u15 : Value) :
    Box ((((((((((((((((w.setCell ⟨R, 0, none⟩ u0).setCell ⟨R, 1, none⟩ u1).setCell ⟨R, 2, none⟩ u2).setCell ⟨R, 3, none⟩ u3).setCell ⟨R, 4, none⟩ u4).setCell ⟨R, 5, none⟩ u5).setCell ⟨R, 6, none⟩ u6).setCell ⟨R, 7, none⟩ u7).setCell ⟨R, 8, none⟩ u8).setCell ⟨R, 9, none⟩ u9).setCell ⟨R, 10, none⟩ u10).setCell ⟨R, 11, none⟩ u11).setCell ⟨R, 12, none⟩ u12).setCell ⟨R, 13, none⟩ u13).setCell ⟨R, 14, none⟩ u14).setCell ⟨R, 15, none⟩ u15) g t cs :=
  ((((((((((((((((h.far (p := ⟨R, 0, none⟩) hR u0).far (p := ⟨R, 1, none⟩) hR u1).far (p := ⟨R, 2, none⟩) hR u2).far (p := ⟨R, 3, none⟩) hR u3).far (p := ⟨R, 4, none⟩) hR u4).far (p := ⟨R, 5, none⟩) hR u5).far (p := ⟨R, 6, none⟩) hR u6).far (p := ⟨R, 7, none⟩) hR u7).far (p := ⟨R, 8, none⟩) hR u8).far (p := ⟨R, 9, none⟩) hR u9).far (p := ⟨R, 10, none⟩) hR u10).far (p := ⟨R, 11, none⟩) hR u11).far (p := ⟨R, 12, none⟩) hR u12).far (p := ⟨R, 13, none⟩) hR u13).far (p := ⟨R, 14, none⟩) hR u14).far (p := ⟨R, 15, none⟩) hR u15)

/-- The state behind the making of the note's variable. -/
theorem NSt.mk1 {w w0 wr : World} {g : Nat} {A : Option Addr} {n cap : Nat} {s l c sh : Int} {q o m cap' : Nat} {zs : List Int} {V : Nat} {k1 k4 k5 : Int} (hgl : g < w.heap.size) (hgq : g ≠ q) (E0 : Below w.heap.size w w0)
    (D0 : Box w0 w.heap.size 26 #[.int .i64 s, .int .i64 l, .int .i64 c, .int .i64 sh, .slice (some ⟨q, o, none⟩) m cap']) (Z0 : Box w0 (w.heap.size + 1) 85 ZN) (r0 : Row w0 w.heap.size (some ⟨q, o, none⟩) m zs)
    (hg : w0.grownBy wr (some g)) (hc : Cur wr 169 .i64 g A n cap) (hV : w0.heap.size ≤ V)
    (B : Box wr V 85 #[.int .i64 k1, .int .i64 0, .int .i64 0, .int .i64 k4, .int .i64 k5, .int .i64 0, .int .i64 0, .int .i64 0, .int .i64 0, .int .i64 0, .int .i64 0, .slice none 0 0, .slice none 0 0, .int .i64 0, .int .i64 0, .int .i64 0]) :
    ∃ V' N, Value.pointer (some ⟨V, 0, none⟩) = .pointer (some ⟨V', 0, none⟩) ∧ Lie w g q V' ∧ NSt w wr g A n cap s l c sh q o m cap' zs V' N (.slice none 0 0) (.slice none 0 0) := by
  have hz := Z0.lt
  exact ⟨V, _, rfl, ⟨hgl, hgq, by omega⟩, hc, grown_trans (grown_bel E0 _) hg, D0.kept hg (by intro e; injection e with e; omega), Z0.kept hg (by intro e; injection e with e; omega), r0.keptB E0.size hg (fun k hk => by injection hk with hk; exact .inr (by omega)), B,
    ⟨k1, 0, 0, k4, k5, 0, 0, 0, 0, 0, 0, 0, 0, 0, rfl⟩, Lst.nil _ _ _, Lst.nil _ _ _, by simp [Value.ownBlock], by simp [Value.ownBlock], .inl rfl⟩

theorem NSt.mk16 {w w0 w2 : World} {g : Nat} {A : Option Addr} {n cap : Nat} {s l c sh : Int} {q o m cap' : Nat} {zs : List Int} {V : Nat} (k1 k4 k5 : Int) (hgl : g < w.heap.size) (hgq : g ≠ q) (E0 : Below w.heap.size w w0)
    (D0 : Box w0 w.heap.size 26 #[.int .i64 s, .int .i64 l, .int .i64 c, .int .i64 sh, .slice (some ⟨q, o, none⟩) m cap']) (Z0 : Box w0 (w.heap.size + 1) 85 ZN) (r0 : Row w0 w.heap.size (some ⟨q, o, none⟩) m zs)
    (hg : w0.grownBy w2 (some g)) (hc : Cur w2 169 .i64 g A n cap) (hV : w0.heap.size ≤ V) (B : Box w2 V 85 #[.int .i64 0, .int .i64 0, .int .i64 0, .int .i64 0, .int .i64 0, .int .i64 0, .int .i64 0, .int .i64 0, .int .i64 0, .int .i64 0, .int .i64 0, .slice none 0 0, .slice none 0 0, .int .i64 0, .int .i64 0, .int .i64 0]) :
    ∃ V' N, Value.pointer (some ⟨V, 0, none⟩) = .pointer (some ⟨V', 0, none⟩) ∧ Lie w g q V' ∧ NSt w ((((((((((((((((w2.setCell ⟨V, 0, none⟩ (.int .i64 k1)).setCell ⟨V, 1, none⟩ (.int .i64 0)).setCell ⟨V, 2, none⟩ (.int .i64 0)).setCell ⟨V, 3, none⟩ (.int .i64 k4)).setCell ⟨V, 4, none⟩ (.int .i64 k5)).setCell ⟨V, 5, none⟩ (.int .i64 0)).setCell ⟨V, 6, none⟩ (.int .i64 0)).setCell ⟨V, 7, none⟩ (.int .i64 0)).setCell ⟨V, 8, none⟩ (.int .i64 0)).setCell ⟨V, 9, none⟩ (.int .i64 0)).setCell ⟨V, 10, none⟩ (.int .i64 0)).setCell ⟨V, 11, none⟩ (.slice none 0 0)).setCell ⟨V, 12, none⟩ (.slice none 0 0)).setCell ⟨V, 13, none⟩ (.int .i64 0)).setCell ⟨V, 14, none⟩ (.int .i64 0)).setCell ⟨V, 15, none⟩ (.int .i64 0)) g A n cap s l c sh q o m cap' zs V' N (.slice none 0 0) (.slice none 0 0) := by
  have hz := Z0.lt
  have hG := grown16 w2 V (.int .i64 k1) (.int .i64 0) (.int .i64 0) (.int .i64 k4) (.int .i64 k5) (.int .i64 0) (.int .i64 0) (.int .i64 0) (.int .i64 0) (.int .i64 0) (.int .i64 0) (.slice none 0 0) (.slice none 0 0) (.int .i64 0) (.int .i64 0) (.int .i64 0)
  exact NSt.mk1 (k1 := k1) (k4 := k4) (k5 := k5) hgl hgq E0 D0 Z0 r0 (grown_far hg hG (fun r hr => by injection hr with hr; omega)) (hc.kept hG (fun r hr => by injection hr with hr; omega)) hV (put16 B (.int .i64 k1) (.int .i64 0) (.int .i64 0) (.int .i64 k4) (.int .i64 k5) (.int .i64 0) (.int .i64 0) (.int .i64 0) (.int .i64 0) (.int .i64 0) (.int .i64 0) (.slice none 0 0) (.slice none 0 0) (.int .i64 0) (.int .i64 0) (.int .i64 0))

set_option maxRecDepth 100000 in
set_option maxHeartbeats 8000000 in
theorem l5Draw_any (g : Nat) (A : Option Addr) (n cap : Nat) (s l c sh : Int) (q o m cap' : Nat) (zs : List Int) (k : Int) (w : World) (hk1 : 1 ≤ k) (hk6 : k ≤ 6) (hm : m ≤ maxLen) (hok : okB s l c sh zs = true) (hc : Cur w 169 .i64 g A n cap) (hr : Row w w.heap.size (some ⟨q, o, none⟩) m zs) (hgq : g ≠ q) :
    Calls Tryz.prog 160 #[.pointer (some ⟨g, 0, none⟩), .agg #[.int .i64 s, .int .i64 l, .int .i64 c, .int .i64 sh, .slice (some ⟨q, o, none⟩) m cap'], .int .i64 k] w (DrawnNote g A n cap w) := by
  have hgl := hc.lt
  obtain ⟨hs1, hs2, hc1, hc2, hl1, hl2⟩ := okB_parts hok
  obtain ⟨hh1, hh2⟩ := okB_sh hok
  have HM := Lib.hid hm
  have HO := Lib.hid hok
  have E0 := bel_trans (bel_alloc w (.cells #[.int .i64 s, .int .i64 l, .int .i64 c, .int .i64 sh, .slice (some ⟨q, o, none⟩) m cap'] 26)) (bel_alloc _ (.cells ZN 85))
  have D0 := (Box.new w 26 #[.int .i64 s, .int .i64 l, .int .i64 c, .int .i64 sh, .slice (some ⟨q, o, none⟩) m cap']).alloc (.cells ZN 85)
  have Z0 := Box.new (w.alloc (.cells #[.int .i64 s, .int .i64 l, .int .i64 c, .int .i64 sh, .slice (some ⟨q, o, none⟩) m cap'] 26)) 85 ZN
  simp only [World.size_alloc] at Z0
  have hc0 := hc.kept (grown_bel E0 none) (fun q hq => by cases hq)
  have r0 := hr.below E0 (Nat.le_refl _)
  clear hm hok hc hr
  go_enter Tryz.func160, Tryz.ntmps160
  go_upto_region 1 with fail
  rw [show (#[.int .i64 0, .int .i64 0, .int .i64 0, .int .i64 0, .int .i64 0, .int .i64 0, .int .i64 0, .int .i64 0, .int .i64 0, .int .i64 0, .int .i64 0, .slice none 0 0, .slice none 0 0, .int .i64 0, .int .i64 0, .int .i64 0] : Array Value) = ZN from rfl]
  generalize ((w.alloc _).alloc _ : World) = w0 at E0 D0 Z0 hc0 r0 ⊢
  go_cut [7] (fun v wr => ∃ V N, v = .pointer (some ⟨V, 0, none⟩) ∧ Lie w g q V ∧ NSt w wr g A n cap s l c sh q o m cap' zs V N (.slice none 0 0) (.slice none 0 0))
  case first =>
    have hz := Z0.lt
    obtain ⟨d0, d1, d2, d3, d4⟩ := D0.five
    have q1 : w0.heap.size ≠ w.heap.size := by omega
    go_wp2_with fail
    go_region_held3 (fun w' => w'.cell? ⟨w.heap.size, 3, none⟩ = some (.int .i64 sh))
      (first | (with_reducible exact K2) | (with_reducible exact K1) | (with_reducible exact ((D2.alloc _).cell 3)) | (with_reducible exact ((D1.alloc _).cell 3)) | (with_reducible exact ((far16 D2 q1 _ _ _ _ _ _ _ _ _ _ _ _ _ _ _ _).cell 3)) | (with_reducible exact ((far16 D2 q2 _ _ _ _ _ _ _ _ _ _ _ _ _ _ _ _).cell 3)) | go_keep)
      (first
        | (go_at_call 67; (with_reducible refine (l1Below_any g A n cap 4 _ (by omega) ?_).mono ?_); (first | exact hc0 | exact curNew hc0 _); rintro e w1 ⟨y, _, rfl, hc1', hg1⟩; (first | (have B1 := gbox_of_alloc (grown_of_drew hg1) (by omega); have F1 := grown_of_alloc (grown_of_drew hg1)) | have F1 := grown_of_drew hg1); have D1 := D0.kept F1 (by intro e; injection e with e; omega); have K1 := D1.cell 3; have l1 := F1.size; have q2 : w1.heap.size ≠ w.heap.size := (by omega))
        | (go_at_call 67; (with_reducible refine (l1Below_any g A n cap sh _ (by omega) ?_).mono ?_); (first | exact hc1' | exact curNew hc1' _); rintro e w2 ⟨y2, _, rfl, hc2', hg2⟩; (first | (have B2 := gbox_of_alloc hg2 (by omega); have F2 := grown_of_alloc hg2) | (have B2 := B1.kept hg2 (by intro e; injection e with e; omega); have F2 := hg2) | have F2 := hg2); have D2 := D1.kept F2 (by intro e; injection e with e; omega); have K2 := D2.cell 3; have G2 := grown_trans F1 F2; have l2 := F2.size; (first | (obtain ⟨b0, b1, b2, b3, b4, b5, b6, b7, b8, b9, b10, b11, b12, b13, b14, b15⟩ := sixteen B2; have fb := B2.frozen) | skip)))
    all_goals go_wp2_with fail
    all_goals go_meet
    all_goals first
      | (have B' : Box w2 w1.heap.size 85 _ := (by with_reducible exact B2); exact NSt.mk16 k y y2 hgl hgq E0 D0 Z0 r0 G2 hc2' (by omega) B')
      | (have B' : Box w2 w0.heap.size 85 _ := (by with_reducible exact B2); exact NSt.mk16 k y y2 hgl hgq E0 D0 Z0 r0 G2 hc2' (by omega) B')
      | exact NSt.mk1 hgl hgq E0 D0 Z0 r0 (grown_alloc G2 _) (curNew hc2' _) (by omega) (Box.new w2 _ _)
  case rest =>
  obtain ⟨V, N, rfl, L, K1⟩ := hcut
  obtain ⟨w1, rfl⟩ : ∃ x, x = wc := ⟨_, rfl⟩
  clear E0 D0 Z0 hc0 r0
  have hLg := L.gl
  have hLv := L.vl
  obtain ⟨d0, d1, d2, d3, d4⟩ := K1.gr.five
  go_wp2_with fail
  refine (l1Below_any g A n cap s w1 (by omega) K1.cur).mono ?_
  rintro e w2 ⟨z8, _, rfl, hcN, hgN⟩
  have K2 := K1.draw L hgN hcN
  clear K1 hgN hcN
  clear d0 d1 d2 d3 d4
  obtain ⟨d0, d1, d2, d3, d4⟩ := K2.gr.five
  go_upto_region 3 with fail
  go_cut [9] (fun v wr => ∃ z : Int, v = .int .i64 z ∧ 0 ≤ z ∧ z ≤ 20 ∧ NSt w wr g A n cap s l c sh q o m cap' zs V N (.slice none 0 0) (.slice none 0 0))
  case first => as_aux_lemma =>
    go_wp2_with fail
    go_region_held3 (fun w' => w'.cell? ⟨w.heap.size, 0, none⟩ = some (.int .i64 s) ∧ w'.cell? ⟨w.heap.size, 2, none⟩ = some (.int .i64 c)) (first | (with_reducible exact J3) | go_keep)
      (first | (go_at_call 67; refine (l1Below_any g A n cap c _ (by omega) ?_).mono ?_; exact K2.cur; rintro e w3 ⟨r, ⟨hr0, hr1⟩, rfl, hcN, hgN⟩; have K3 := K2.draw L (grown_of_drew hgN) hcN; have J3 := And.intro (K3.gr.cell 0) (K3.gr.cell 2); have hw : IntKind.i64.wrap (s + r) = s + r := IntWalk.i64_in _ (by omega)))
    all_goals
      clear K2
      go_wp2_with fail
      go_meet
      exact ⟨_, rfl, by omega, by omega, K3⟩
  case rest =>
  obtain ⟨z9, rfl, hz0, hz1, K3⟩ := hcut
  obtain ⟨w3, rfl⟩ : ∃ x, x = wc := ⟨_, rfl⟩
  clear K2
  clear d0 d1 d2 d3 d4
  have cN := K3.var.cell
  have fr := K3.var.frozen
  obtain ⟨x1, n1⟩ := K3.shp.num (i := 1) (by simp [isNum])
  obtain ⟨x2, n2⟩ := K3.shp.num (i := 2) (by simp [isNum])
  have K4 := (K3.put L 1 (by simp [isNum]) z9).put L 2 (by simp [isNum]) z8
  go_upto_if 40 with fail
  clear K3
  clear cN fr n1 n2
  generalize ((w3.setCell _ _).setCell _ _ : World) = w4 at K4 ⊢
  generalize (N.setIfInBounds _ _).setIfInBounds _ _ = N4 at K4
  go_cut [41] (fun _ wr => ∃ N, NSt w wr g A n cap s l c sh q o m cap' zs V N (.slice none 0 0) (.slice none 0 0))
  case first => as_aux_lemma =>
    rcases (show k % 2 = 0 ∨ k % 2 = 1 by omega) with hpar | hpar
    · have cN := K4.var.cell
      have fr := K4.var.frozen
      obtain ⟨x1, n1⟩ := K4.shp.num (i := 1) (by simp [isNum])
      obtain ⟨x2, n2⟩ := K4.shp.num (i := 2) (by simp [isNum])
      have K5 := (K4.put L 1 (by simp [isNum]) z8).put L 2 (by simp [isNum]) z9
      clear K4
      go_wp2_with fail
      go_meet
      exact ⟨_, K5⟩
    · go_wp2_with fail
      go_meet
      exact ⟨_, K4⟩
  case rest =>
  clear K4 N4 N
  obtain ⟨N, K5⟩ := hcut
  obtain ⟨w5, rfl⟩ : ∃ x, x = wc := ⟨_, rfl⟩
  by_cases hk : k = 1
  · subst hk
    have HI := Lib.hid K5.shp.info
    have HS := Lib.hid (show ZN.size = _ from K5.shp.size.symm)
    have H1 := Lib.hid (K5.shp.one K5.cer.one K5.mor.one)
    have HK := Lib.hid (K5.fin L)
    have HH := Lib.hid K5.shp
    have HC := Lib.hid K5.cm
    have HV := Lib.hid K5.var
    have HR := Lib.hid K5.res
    clear K5
    go_wp2_with (first | (refine wpList_load_box 85 _ rfl V rfl 85 _ HV.out _ Tryz.underlying85 rfl HI.out (by simp [Region.wanted, yielded]) ?_) | (refine wpList_store_row rfl 85 _ _ rfl (w.heap.size + 1) _ rfl rfl 85 ZN HR.out HI.out HS.out H1.out ?_))
    exact bodyPost_ret (results_cell_row Tryz.results160 _ _ (w.heap.size + 1) 85 _ (0, 0) _ rfl HK.out.1 Tryz.underlying85 rfl HI.out) rfl ⟨_, _, _, rfl, HH.out, HK.out.2.1, HK.out.2.2.1, HC.out, HK.out.2.2.2.1, HK.out.2.2.2.2⟩
  have hkf : (k == 1) = false := by simpa using hk
  have cN := K5.var.cell
  have fr := K5.var.frozen
  obtain ⟨x5, n5⟩ := K5.shp.num (i := 5) (by simp [isNum])
  obtain ⟨x6, n6⟩ := K5.shp.num (i := 6) (by simp [isNum])
  go_wp2_with fail
  refine (l1Below_any g A n cap 4 w5 (by omega) K5.cur).mono ?_
  rintro e w6 ⟨za, _, rfl, hcN, hgN⟩
  have K6 := K5.draw L hgN hcN
  clear K5 hgN hcN
  clear cN fr n5 n6
  have cN := K6.var.cell
  have fr := K6.var.frozen
  obtain ⟨x5, n5⟩ := K6.shp.num (i := 5) (by simp [isNum])
  obtain ⟨x6, n6⟩ := K6.shp.num (i := 6) (by simp [isNum])
  have K7 := (K6.put L 5 (by simp [isNum]) za).put L 6 (by simp [isNum]) z9
  clear K6
  go_upto_region 12 with fail
  clear cN fr n5 n6
  generalize ((w6.setCell _ _).setCell _ _ : World) = w7 at K7 ⊢
  generalize (N.setIfInBounds _ _).setIfInBounds _ _ = N7 at K7
  have cN := K7.var.cell
  have fr := K7.var.frozen
  obtain ⟨x5, n5⟩ := K7.shp.num (i := 5) (by simp [isNum])
  obtain ⟨x6, n6⟩ := K7.shp.num (i := 6) (by simp [isNum])
  go_upto_if 56 with fail
  go_cut [57] (fun _ wr => ∃ N, NSt w wr g A n cap s l c sh q o m cap' zs V N (.slice none 0 0) (.slice none 0 0))
  case first => as_aux_lemma =>
    by_cases hx : x5 = 0
    · subst hx
      have K8 := K7.put L 6 (by simp [isNum]) 0
      clear K7
      go_wp2_with fail
      go_meet
      exact ⟨_, K8⟩
    · have hxf : (x5 == 0) = false := by simpa using hx
      go_wp2_with fail
      go_meet
      exact ⟨_, K7⟩
  case rest =>
  clear cN fr n5 n6
  clear K7 N7 N
  obtain ⟨N, K8⟩ := hcut
  obtain ⟨w8, rfl⟩ : ∃ x, x = wc := ⟨_, rfl⟩
  have cN := K8.var.cell
  have fr := K8.var.frozen
  obtain ⟨x7, n7⟩ := K8.shp.num (i := 7) (by simp [isNum])
  go_wp2_with fail
  refine (l1Below_any g A n cap 4 w8 (by omega) K8.cur).mono ?_
  rintro e w9 ⟨zb, _, rfl, hcN, hgN⟩
  have K9 := K8.draw L hgN hcN
  clear K8 hgN hcN
  clear cN fr n7
  have cN := K9.var.cell
  have fr := K9.var.frozen
  obtain ⟨x7, n7⟩ := K9.shp.num (i := 7) (by simp [isNum])
  have K10 := K9.put L 7 (by simp [isNum]) zb
  clear K9
  go_upto_region 15 with fail
  clear cN fr n7
  generalize (w9.setCell _ _ : World) = w10 at K10 ⊢
  generalize N.setIfInBounds _ _ = N10 at K10
  have cN := K10.var.cell
  have fr := K10.var.frozen
  obtain ⟨x4, n4⟩ := K10.shp.num (i := 4) (by simp [isNum])
  obtain ⟨x5, n5⟩ := K10.shp.num (i := 5) (by simp [isNum])
  obtain ⟨x6, n6⟩ := K10.shp.num (i := 6) (by simp [isNum])
  obtain ⟨x7, n7⟩ := K10.shp.num (i := 7) (by simp [isNum])
  go_cut [10] (fun v wr => ∃ (X : Nat) (ck ch ct cq cv : Int), v = .pointer (some ⟨X, 0, none⟩) ∧ w.heap.size + 2 ≤ X ∧ X ≠ V ∧ Box wr X 180 #[.int .i64 ck, .int .i64 ch, .int .i64 ct, .int .i64 cq, .int .i64 cv] ∧ NSt w wr g A n cap s l c sh q o m cap' zs V N10 (.slice none 0 0) (.slice none 0 0))
  case first => as_aux_lemma =>
    go_wp2_with fail
    refine (l4Ready_is x4 x5 x6 x7 w10).mono ?_
    rintro e w11 ⟨rfl, hb⟩
    have K11 := (K10.later hb).later (bel_alloc w11 (.cells #[.int .i64 1, .int .i64 x4, .int .i64 x5, .int .i64 x6, .int .i64 x7] 180))
    have X11 := Box.new w11 180 #[.int .i64 1, .int .i64 x4, .int .i64 x5, .int .i64 x6, .int .i64 x7]
    have hv := (K10.later hb).var.lt
    clear K10 hb cN fr n4 n5 n6 n7
    go_wp2_with fail
    go_meet
    exact ⟨_, _, _, _, _, _, rfl, by omega, by omega, X11, K11⟩
  case rest =>
  clear cN fr n4 n5 n6 n7
  clear K10
  obtain ⟨X, ck, ch, ct, cq, cv, rfl, hX, hXV, X12, K12⟩ := hcut
  obtain ⟨w12, rfl⟩ : ∃ x, x = wc := ⟨_, rfl⟩
  by_cases hk2 : k = 2
  · subst hk2
    obtain ⟨d0, d1, d2, d3, d4⟩ := K12.gr.five
    obtain ⟨c0, c1, c2, c3, c4⟩ := X12.five
    go_wp2_with fail
    refine (l4Draw_any g A n cap s l c sh q o m cap' zs ck ch ct cq cv w12 HM.out K12.cur (K12.row.more K12.grw.size) hgq).mono ?_
    rintro e w13 ⟨p, pc, ps, rfl, hown, hl, hcN, hgN⟩
    obtain ⟨hv, hv1, hv2⟩ := K12.list hl hown
    have K13 := K12.draw L hgN hcN
    clear K12 X12 hcN hgN hown
    clear d0 d1 d2 d3 d4
    clear c0 c1 c2 c3 c4
    have cN := K13.var.cell
    have fr := K13.var.frozen
    have n11 := K13.shp.at11
    have K14 := K13.cert L _ hv hv1 rfl
    clear K13 hv hv1 hv2
    have HI := Lib.hid K14.shp.info
    have HS := Lib.hid (show ZN.size = _ from K14.shp.size.symm)
    have H1 := Lib.hid (K14.shp.one K14.cer.one K14.mor.one)
    have HK := Lib.hid (K14.fin L)
    have HH := Lib.hid K14.shp
    have HC := Lib.hid K14.cm
    have HV := Lib.hid K14.var
    have HR := Lib.hid K14.res
    clear K14
    go_wp2_with (first | (refine wpList_load_box 85 _ rfl V rfl 85 _ HV.out _ Tryz.underlying85 rfl HI.out (by simp [Region.wanted, yielded]) ?_) | (refine wpList_store_row rfl 85 _ _ rfl (w.heap.size + 1) _ rfl rfl 85 ZN HR.out HI.out HS.out H1.out ?_))
    exact bodyPost_ret (results_cell_row Tryz.results160 _ _ (w.heap.size + 1) 85 _ (0, 0) _ rfl HK.out.1 Tryz.underlying85 rfl HI.out) rfl ⟨_, _, _, rfl, HH.out, HK.out.2.1, HK.out.2.2.1, HC.out, HK.out.2.2.2.1, HK.out.2.2.2.2⟩
  by_cases hk5 : k = 5
  · subst hk5
    obtain ⟨d0, d1, d2, d3, d4⟩ := K12.gr.five
    obtain ⟨c0, c1, c2, c3, c4⟩ := X12.five
    go_wp2_with fail
    refine (l4Draw_any g A n cap s l c sh q o m cap' zs ck ch ct cq cv w12 HM.out K12.cur (K12.row.more K12.grw.size) hgq).mono ?_
    rintro e w13 ⟨p, pc, ps, rfl, hown, hl, hcN, hgN⟩
    obtain ⟨hv, hv1, hv2⟩ := K12.list hl hown
    have K13 := K12.draw L hgN hcN
    clear K12 X12 hcN hgN hown
    clear d0 d1 d2 d3 d4
    clear c0 c1 c2 c3 c4
    have cN := K13.var.cell
    have fr := K13.var.frozen
    have n11 := K13.shp.at11
    have K14 := K13.cert L _ hv hv1 rfl
    clear K13 hv hv1 hv2
    have HI := Lib.hid K14.shp.info
    have HS := Lib.hid (show ZN.size = _ from K14.shp.size.symm)
    have H1 := Lib.hid (K14.shp.one K14.cer.one K14.mor.one)
    have HK := Lib.hid (K14.fin L)
    have HH := Lib.hid K14.shp
    have HC := Lib.hid K14.cm
    have HV := Lib.hid K14.var
    have HR := Lib.hid K14.res
    clear K14
    go_wp2_with (first | (refine wpList_load_box 85 _ rfl V rfl 85 _ HV.out _ Tryz.underlying85 rfl HI.out (by simp [Region.wanted, yielded]) ?_) | (refine wpList_store_row rfl 85 _ _ rfl (w.heap.size + 1) _ rfl rfl 85 ZN HR.out HI.out HS.out H1.out ?_))
    exact bodyPost_ret (results_cell_row Tryz.results160 _ _ (w.heap.size + 1) 85 _ (0, 0) _ rfl HK.out.1 Tryz.underlying85 rfl HI.out) rfl ⟨_, _, _, rfl, HH.out, HK.out.2.1, HK.out.2.2.1, HC.out, HK.out.2.2.2.1, HK.out.2.2.2.2⟩
  by_cases hk4 : k = 4
  · subst hk4
    obtain ⟨d0, d1, d2, d3, d4⟩ := K12.gr.five
    obtain ⟨c0, c1, c2, c3, c4⟩ := X12.five
    have cN := K12.var.cell
    obtain ⟨x1, n1⟩ := K12.shp.num (i := 1) (by simp [isNum])
    obtain ⟨sx, st, sf, hsv⟩ := seV_form s l c sh zs ck ch ct cq cv x1
    have HSV := Lib.hid hsv
    clear hsv
    go_wp2_with fail
    refine (specSeal_is HSV.out _ m cap' w12 HM.out (K12.row.more K12.grw.size)).mono ?_
    rintro e w14 ⟨rfl, hb⟩
    have S14 := bel_alloc w14 (.cells #[.int .i64 sx, .int .i64 st] 136)
    have K15 := (K12.later hb).later S14
    have B15 := Box.new w14 136 #[.int .i64 sx, .int .i64 st]
    have hw14 := K15.grw.size
    clear K12 hb S14 cN n1 X12
    clear d0 d1 d2 d3 d4
    clear c0 c1 c2 c3 c4
    go_upto_region 38 with fail
    generalize (w14.alloc _ : World) = w15 at K15 B15 hw14 ⊢
    generalize w14.heap.size = Y at B15 ⊢
    obtain ⟨y0, y1⟩ := B15.two
    have K16 := K15.later (bel_alloc w15 (.cells #[.int .i64 sx, .int .i64 st] 136))
    have hv15 := K15.var.lt
    have hL : Lst (w15.alloc (.cells #[.int .i64 sx, .int .i64 st] 136)) (w.heap.size + 2) 20 (.slice (some ⟨w15.heap.size, 0, none⟩) 1 1) := ⟨[(sx, st)], by simp, World.ownsRow_lit w15 #[.int .i64 sx, .int .i64 st] 1 (by omega) (by unfold maxLen; omega) rfl⟩
    have cN := K15.var.cell
    have fr := K15.var.frozen
    have hnv : V ≠ w15.heap.size := by omega
    have hnv' : w15.heap.size ≠ V := by omega
    have n11 := K16.shp.at11
    have K17 := K16.cert L _ hL (by simp [Value.ownBlock]; omega) rfl
    rw [World.setCell_alloc_past _ _ _ _ hv15] at K17
    clear K15 K16 hL
    have HI := Lib.hid K17.shp.info
    have HS := Lib.hid (show ZN.size = _ from K17.shp.size.symm)
    have H1 := Lib.hid (K17.shp.one K17.cer.one K17.mor.one)
    have HK := Lib.hid (K17.fin L)
    have HH := Lib.hid K17.shp
    have HC := Lib.hid K17.cm
    have HV := Lib.hid K17.var
    have HR := Lib.hid K17.res
    clear K17
    go_wp2_with (first | (refine wpList_load_box 85 _ rfl V rfl 85 _ HV.out _ Tryz.underlying85 rfl HI.out (by simp [Region.wanted, yielded]) ?_) | (refine wpList_store_row rfl 85 _ _ rfl (w.heap.size + 1) _ rfl rfl 85 ZN HR.out HI.out HS.out H1.out ?_))
    exact bodyPost_ret (results_cell_row Tryz.results160 _ _ (w.heap.size + 1) 85 _ (0, 0) _ rfl HK.out.1 Tryz.underlying85 rfl HI.out) rfl ⟨_, _, _, rfl, HH.out, HK.out.2.1, HK.out.2.2.1, HC.out, HK.out.2.2.2.1, HK.out.2.2.2.2⟩
  by_cases hk6' : k = 6
  · subst hk6'
    obtain ⟨c0, c1, c2, c3, c4⟩ := X12.five
    have fx := X12.frozen
    have K13 := K12.other L hX hXV (by simp [Value.ownBlock]) (by simp [Value.ownBlock]) 0 (.int .i64 2)
    have X13 : Box _ X 180 #[.int .i64 2, .int .i64 ch, .int .i64 ct, .int .i64 cq, .int .i64 cv] := X12.set 0 (.int .i64 2)
    clear K12 X12
    go_upto_region 37 with fail
    generalize (w12.setCell _ _ : World) = w13 at K13 X13 ⊢
    clear c0 c1 c2 c3 c4 fx
    obtain ⟨d0, d1, d2, d3, d4⟩ := K13.gr.five
    obtain ⟨c0, c1, c2, c3, c4⟩ := X13.five
    have cN := K13.var.cell
    obtain ⟨x1, n1⟩ := K13.shp.num (i := 1) (by simp [isNum])
    obtain ⟨sx, st, sf, hsv⟩ := seV_form s l c sh zs 2 ch ct cq cv x1
    have HSV := Lib.hid hsv
    clear hsv
    go_wp2_with fail
    refine (specSeal_is HSV.out _ m cap' w13 HM.out (K13.row.more K13.grw.size)).mono ?_
    rintro e w14 ⟨rfl, hb⟩
    have S14 := bel_alloc w14 (.cells #[.int .i64 sx, .int .i64 st] 136)
    have K15 := (K13.later hb).later S14
    have B15 := Box.new w14 136 #[.int .i64 sx, .int .i64 st]
    have hw14 := K15.grw.size
    clear K13 hb S14 cN n1 X13
    clear d0 d1 d2 d3 d4
    clear c0 c1 c2 c3 c4
    go_upto_region 38 with fail
    generalize (w14.alloc _ : World) = w15 at K15 B15 hw14 ⊢
    generalize w14.heap.size = Y at B15 ⊢
    obtain ⟨y0, y1⟩ := B15.two
    have K16 := K15.later (bel_alloc w15 (.cells #[.int .i64 sx, .int .i64 st] 136))
    have hv15 := K15.var.lt
    have hL : Lst (w15.alloc (.cells #[.int .i64 sx, .int .i64 st] 136)) (w.heap.size + 2) 20 (.slice (some ⟨w15.heap.size, 0, none⟩) 1 1) := ⟨[(sx, st)], by simp, World.ownsRow_lit w15 #[.int .i64 sx, .int .i64 st] 1 (by omega) (by unfold maxLen; omega) rfl⟩
    have cN := K15.var.cell
    have fr := K15.var.frozen
    have hnv : V ≠ w15.heap.size := by omega
    have hnv' : w15.heap.size ≠ V := by omega
    have n11 := K16.shp.at11
    have K17 := K16.cert L _ hL (by simp [Value.ownBlock]; omega) rfl
    rw [World.setCell_alloc_past _ _ _ _ hv15] at K17
    clear K15 K16 hL
    have HI := Lib.hid K17.shp.info
    have HS := Lib.hid (show ZN.size = _ from K17.shp.size.symm)
    have H1 := Lib.hid (K17.shp.one K17.cer.one K17.mor.one)
    have HK := Lib.hid (K17.fin L)
    have HH := Lib.hid K17.shp
    have HC := Lib.hid K17.cm
    have HV := Lib.hid K17.var
    have HR := Lib.hid K17.res
    clear K17
    go_wp2_with (first | (refine wpList_load_box 85 _ rfl V rfl 85 _ HV.out _ Tryz.underlying85 rfl HI.out (by simp [Region.wanted, yielded]) ?_) | (refine wpList_store_row rfl 85 _ _ rfl (w.heap.size + 1) _ rfl rfl 85 ZN HR.out HI.out HS.out H1.out ?_))
    exact bodyPost_ret (results_cell_row Tryz.results160 _ _ (w.heap.size + 1) 85 _ (0, 0) _ rfl HK.out.1 Tryz.underlying85 rfl HI.out) rfl ⟨_, _, _, rfl, HH.out, HK.out.2.1, HK.out.2.2.1, HC.out, HK.out.2.2.2.1, HK.out.2.2.2.2⟩
  obtain rfl : k = 3 := by omega
  clear X12 hX hXV
  have cN := K12.var.cell
  have fr := K12.var.frozen
  obtain ⟨x8, n8⟩ := K12.shp.num (i := 8) (by simp [isNum])
  obtain ⟨x9, n9⟩ := K12.shp.num (i := 9) (by simp [isNum])
  go_wp2_with fail
  refine (l2Draw_any g A n cap w12 K12.cur).mono ?_
  rintro e w13 ⟨oa, ob, rfl, hcN, hgN⟩
  have K13 := K12.draw L hgN hcN
  clear K12 hgN hcN
  clear cN fr n8 n9
  have cN := K13.var.cell
  have fr := K13.var.frozen
  obtain ⟨x8, n8⟩ := K13.shp.num (i := 8) (by simp [isNum])
  obtain ⟨x9, n9⟩ := K13.shp.num (i := 9) (by simp [isNum])
  have K14 := (K13.put L 8 (by simp [isNum]) oa).put L 9 (by simp [isNum]) ob
  clear K13
  go_upto_region 22 with fail
  clear cN fr n8 n9
  generalize ((w13.setCell _ _).setCell _ _ : World) = w14 at K14 ⊢
  generalize (N10.setIfInBounds _ _).setIfInBounds _ _ = N14 at K14
  go_wp2_with fail
  refine (l1Once_any g A n cap 2 w14 (by omega) K14.cur).mono ?_
  rintro e w15 ⟨b, rfl, hcN, hgN⟩
  have K15 := K14.draw L hgN hcN
  clear K14 hgN hcN
  go_upto_if 84 with fail
  go_cut [86] (fun _ wr => ∃ N, NSt w wr g A n cap s l c sh q o m cap' zs V N (.slice none 0 0) (.slice none 0 0))
  case first => as_aux_lemma =>
    rcases b with _ | _
    · go_wp2_with fail
      go_meet
      exact ⟨_, K15⟩
    · have cN := K15.var.cell
      have fr := K15.var.frozen
      obtain ⟨x8, n8⟩ := K15.shp.num (i := 8) (by simp [isNum])
      obtain ⟨x9, n9⟩ := K15.shp.num (i := 9) (by simp [isNum])
      have K16 := (K15.put L 8 (by simp [isNum]) 0).put L 9 (by simp [isNum]) 0
      clear K15
      go_wp2_with fail
      go_meet
      exact ⟨_, K16⟩
  case rest =>
  clear K15 N14 N10 N
  obtain ⟨N, K16⟩ := hcut
  obtain ⟨w16, rfl⟩ : ∃ x, x = wc := ⟨_, rfl⟩
  have cN := K16.var.cell
  have fr := K16.var.frozen
  obtain ⟨x8, n8⟩ := K16.shp.num (i := 8) (by simp [isNum])
  obtain ⟨x9, n9⟩ := K16.shp.num (i := 9) (by simp [isNum])
  go_wp2_with fail
  refine (zero_is x8 x9 w16).mono ?_
  rintro e w17 ⟨rfl, hb⟩
  have K17 := K16.later hb
  generalize z2B x8 x9 = b2
  clear hb K16 cN fr n8 n9
  go_upto_if 90 with fail
  go_cut [93] (fun _ wr => ∃ N, NSt w wr g A n cap s l c sh q o m cap' zs V N (.slice none 0 0) (.slice none 0 0))
  case first => as_aux_lemma =>
    rcases b2 with _ | _
    · have cN := K17.var.cell
      have fr := K17.var.frozen
      obtain ⟨x10, n10⟩ := K17.shp.num (i := 10) (by simp [isNum])
      go_wp2_with fail
      refine (l1Below_any g A n cap 4 w17 (by omega) K17.cur).mono ?_
      rintro e w18 ⟨zd, _, rfl, hcN, hgN⟩
      have K18 := K17.draw L hgN hcN
      clear K17 hgN hcN
      clear cN fr n10
      have cN := K18.var.cell
      have fr := K18.var.frozen
      obtain ⟨x10, n10⟩ := K18.shp.num (i := 10) (by simp [isNum])
      have K19 := K18.put L 10 (by simp [isNum]) zd
      clear K18
      go_wp2_with fail
      go_meet
      exact ⟨_, K19⟩
    · go_wp2_with fail
      go_meet
      exact ⟨_, K17⟩
  case rest =>
  clear K17 N
  obtain ⟨N, K19⟩ := hcut
  obtain ⟨w19, rfl⟩ : ∃ x, x = wc := ⟨_, rfl⟩
  have cN := K19.var.cell
  have fr := K19.var.frozen
  obtain ⟨x8, n8⟩ := K19.shp.num (i := 8) (by simp [isNum])
  obtain ⟨x9, n9⟩ := K19.shp.num (i := 9) (by simp [isNum])
  go_upto_region 26 with fail
  go_cut [11, 12] (fun v v' wr => ∃ (Y : Nat) (a b : Int) (f : Bool), v = .pointer (some ⟨Y, 0, none⟩) ∧ v' = .bool f ∧ w.heap.size + 2 ≤ Y ∧ Y ≠ V ∧ Box wr Y 39 #[.int .i64 a, .int .i64 b] ∧ NSt w wr g A n cap s l c sh q o m cap' zs V N (.slice none 0 0) (.slice none 0 0))
  case first => as_aux_lemma =>
    have C := specNext_any x8 x9 z9 w19
    unfold nxV at C
    generalize nxC x8 x9 z9 = a at C
    generalize nxK x8 x9 z9 = b at C
    generalize nxB x8 x9 z9 = f at C
    have HC := Lib.hid C
    clear C
    go_wp2_with fail
    refine HC.out.mono ?_
    rintro e w20 ⟨rfl, hb⟩
    have K20 := (K19.later hb).later (bel_alloc w20 (.cells #[.int .i64 a, .int .i64 b] 39))
    have Y20 := Box.new w20 39 #[.int .i64 a, .int .i64 b]
    have hv := (K19.later hb).var.lt
    have hv2 := (K19.later hb).grw.size
    clear K19 hb HC cN fr n8 n9
    go_wp2_with fail
    go_meet
    exact ⟨_, _, _, f, rfl, rfl, by omega, by omega, Y20, K20⟩
  case rest =>
  clear cN fr n8 n9
  clear K19
  obtain ⟨Y, ya, yb, f, rfl, rfl, hY, hYV, Y20, K20⟩ := hcut
  obtain ⟨w20, rfl⟩ : ∃ x, x = wc := ⟨_, rfl⟩
  go_upto_region 27 with fail
  go_cut [106] (fun v wr => ∃ b, v = .bool b ∧ Box wr Y 39 #[.int .i64 ya, .int .i64 yb] ∧ NSt w wr g A n cap s l c sh q o m cap' zs V N (.slice none 0 0) (.slice none 0 0))
  case first => as_aux_lemma =>
    rcases f with _ | _
    · go_wp2_with fail
      go_meet
      exact ⟨_, rfl, Y20, K20⟩
    · go_wp2_with fail
      refine (l1Once_any g A n cap 4 w20 (by omega) K20.cur).mono ?_
      rintro e w21 ⟨b, rfl, hcN, hgN⟩
      have K21 := K20.draw L hgN hcN
      have Y21 := Y20.kept hgN (by intro e; injection e with e; omega)
      clear K20 Y20 hcN hgN
      go_wp2_with fail
      go_meet
      exact ⟨_, rfl, Y21, K21⟩
  case rest =>
  clear K20 Y20
  obtain ⟨b, rfl, Y21, K21⟩ := hcut
  obtain ⟨w21, rfl⟩ : ∃ x, x = wc := ⟨_, rfl⟩
  go_upto_if 106 with fail
  go_cut [108] (fun _ wr => ∃ N, NSt w wr g A n cap s l c sh q o m cap' zs V N (.slice none 0 0) (.slice none 0 0))
  case first => as_aux_lemma =>
    rcases b with _ | _
    · go_wp2_with fail
      go_meet
      exact ⟨_, K21⟩
    · obtain ⟨y0, y1⟩ := Y21.two
      have cN := K21.var.cell
      have fr := K21.var.frozen
      obtain ⟨x5, n5⟩ := K21.shp.num (i := 5) (by simp [isNum])
      obtain ⟨x6, n6⟩ := K21.shp.num (i := 6) (by simp [isNum])
      have K22 := (K21.put L 5 (by simp [isNum]) ya).put L 6 (by simp [isNum]) yb
      clear K21
      go_wp2_with fail
      go_meet
      exact ⟨_, K22⟩
  case rest =>
  clear K21 Y21 N
  obtain ⟨N, K22⟩ := hcut
  obtain ⟨w22, rfl⟩ : ∃ x, x = wc := ⟨_, rfl⟩
  go_upto_region 29 with fail
  go_cut [119] (fun _ wr => ∃ N v, NSt w wr g A n cap s l c sh q o m cap' zs V N v (.slice none 0 0))
  case first => as_aux_lemma =>
    obtain ⟨d0, d1, d2, d3, d4⟩ := K22.gr.five
    obtain ⟨x4, n4⟩ := K22.shp.num (i := 4) (by simp [isNum])
    obtain ⟨x8, n8⟩ := K22.shp.num (i := 8) (by simp [isNum])
    obtain ⟨x9, n9⟩ := K22.shp.num (i := 9) (by simp [isNum])
    obtain ⟨x10, n10⟩ := K22.shp.num (i := 10) (by simp [isNum])
    have m4 := K22.cell n4
    have m8 := K22.cell n8
    have m9 := K22.cell n9
    have m10 := K22.cell n10
    have hne : w.heap.size ≠ V := by omega
    go_wp2_with fail
    have Kd := K22.later ((Below.refl _ _).drew)
    have J0 := Kd.held n4 n8 n9 n10
    go_region_held3 (fun w' => w'.cell? ⟨w.heap.size, 0, none⟩ = some (.int .i64 s) ∧ w'.cell? ⟨w.heap.size, 1, none⟩ = some (.int .i64 l) ∧ w'.cell? ⟨w.heap.size, 2, none⟩ = some (.int .i64 c) ∧ w'.cell? ⟨w.heap.size, 3, none⟩ = some (.int .i64 sh) ∧ w'.cell? ⟨w.heap.size, 4, none⟩ = some (.slice (some ⟨q, o, none⟩) m cap') ∧ w'.cell? ⟨V, 4, none⟩ = some (.int .i64 x4) ∧ w'.cell? ⟨V, 8, none⟩ = some (.int .i64 x8) ∧ w'.cell? ⟨V, 9, none⟩ = some (.int .i64 x9) ∧ w'.cell? ⟨V, 10, none⟩ = some (.int .i64 x10)) (first | (with_reducible exact J3) | (with_reducible exact J2) | (with_reducible exact J1) | (with_reducible exact J0))
      (first
        | (go_at_call 137; refine (l4Ready_is x4 x8 x9 x10 _).mono ?_; rintro e wa ⟨rfl, hba⟩; have Ka := Kd.later hba; have J1 := Ka.held n4 n8 n9 n10)
        | (go_at_call 204; (with_reducible refine (l4Draw_any g A n cap s l c sh q o m cap' zs 1 x4 x8 x9 x10 _ HM.out ?_ ?_ hgq).mono ?_); exact Ka.cur; exact (Ka.row.more Ka.grw.size); rintro e wb ⟨p, pc, ps, rfl, hown, hl, hcN, hgN⟩; obtain ⟨hv, hv1, hv2⟩ := Ka.list hl hown; have Kb := Ka.draw L hgN hcN; have J2 := Kb.held n4 n8 n9 n10; have f11 := Kb.var.frozen; have m11 := Kb.cell Kb.shp.at11; have Kc := Kb.cert L _ hv hv1 rfl; have J3 := Kc.held (i1 := 8) (i2 := 9) (i3 := 10) (x4 := x4) (y1 := x8) (y2 := x9) (y3 := x10) (by simpa using n4) (by simpa using n8) (by simpa using n9) (by simpa using n10)))
    all_goals
      have K9 := Kc
      clear Ka Kb Kc Kd J0 J1 J2 J3 hv hv1 hv2 hown hcN hgN
      go_wp2_with fail
      go_meet
      exact ⟨_, _, K9⟩
  case rest =>
  clear K22 N
  obtain ⟨N, cvv, K23⟩ := hcut
  obtain ⟨w23, rfl⟩ : ∃ x, x = wc := ⟨_, rfl⟩
  have cN := K23.var.cell
  have fr := K23.var.frozen
  obtain ⟨x13, n13⟩ := K23.shp.num (i := 13) (by simp [isNum])
  obtain ⟨x14, n14⟩ := K23.shp.num (i := 14) (by simp [isNum])
  go_wp2_with fail
  refine (l1Below_any g A n cap 3 w23 (by omega) K23.cur).mono ?_
  rintro e w24 ⟨ze, ⟨hze0, hze1⟩, rfl, hcN, hgN⟩
  have K24 := K23.draw L hgN hcN
  clear K23 hcN hgN
  clear cN fr n13 n14
  have cN := K24.var.cell
  have fr := K24.var.frozen
  obtain ⟨x13, n13⟩ := K24.shp.num (i := 13) (by simp [isNum])
  obtain ⟨x14, n14⟩ := K24.shp.num (i := 14) (by simp [isNum])
  have K25 := (K24.put L 13 (by simp [isNum]) (1 + ze)).put L 14 (by simp [isNum]) z9
  clear K24
  go_upto_region 31 with fail
  clear cN fr n13 n14
  generalize ((w24.setCell _ _).setCell _ _ : World) = w25 at K25 ⊢
  generalize (N.setIfInBounds _ _).setIfInBounds _ _ = N25 at K25
  have cN := K25.var.cell
  have fr := K25.var.frozen
  obtain ⟨x15, n15⟩ := K25.shp.num (i := 15) (by simp [isNum])
  go_wp2_with fail
  refine (l1Below_any g A n cap 3 w25 (by omega) K25.cur).mono ?_
  rintro e w26 ⟨zf, _, rfl, hcN, hgN⟩
  have K26 := K25.draw L hgN hcN
  clear K25 hgN hcN
  clear cN fr n15
  have cN := K26.var.cell
  have fr := K26.var.frozen
  obtain ⟨x15, n15⟩ := K26.shp.num (i := 15) (by simp [isNum])
  have K27 := K26.put L 15 (by simp [isNum]) zf
  clear K26
  go_upto_region 32 with fail
  clear cN fr n15
  generalize (w26.setCell _ _ : World) = w27 at K27 ⊢
  generalize N25.setIfInBounds _ _ = N27 at K27
  clear N
  obtain ⟨d0, d1, d2, d3, d4⟩ := K27.gr.five
  obtain ⟨x4, n4⟩ := K27.shp.num (i := 4) (by simp [isNum])
  obtain ⟨x13, n13⟩ := K27.shp.num (i := 13) (by simp [isNum])
  obtain ⟨x14, n14⟩ := K27.shp.num (i := 14) (by simp [isNum])
  obtain ⟨x15, n15⟩ := K27.shp.num (i := 15) (by simp [isNum])
  have m4 := K27.cell n4
  have m13 := K27.cell n13
  have m14 := K27.cell n14
  have m15 := K27.cell n15
  have hne : w.heap.size ≠ V := by omega
  go_wp2_with fail
  have Kd := K27.later ((Below.refl _ _).drew)
  have J0 := Kd.held n4 n13 n14 n15
  go_region_held3 (fun w' => w'.cell? ⟨w.heap.size, 0, none⟩ = some (.int .i64 s) ∧ w'.cell? ⟨w.heap.size, 1, none⟩ = some (.int .i64 l) ∧ w'.cell? ⟨w.heap.size, 2, none⟩ = some (.int .i64 c) ∧ w'.cell? ⟨w.heap.size, 3, none⟩ = some (.int .i64 sh) ∧ w'.cell? ⟨w.heap.size, 4, none⟩ = some (.slice (some ⟨q, o, none⟩) m cap') ∧ w'.cell? ⟨V, 4, none⟩ = some (.int .i64 x4) ∧ w'.cell? ⟨V, 13, none⟩ = some (.int .i64 x13) ∧ w'.cell? ⟨V, 14, none⟩ = some (.int .i64 x14) ∧ w'.cell? ⟨V, 15, none⟩ = some (.int .i64 x15)) (first | (with_reducible exact J3) | (with_reducible exact J2) | (with_reducible exact J1) | (with_reducible exact J0))
    (first
      | (go_at_call 162; refine (l4Wrote_is x4 x13 x14 x15 _).mono ?_; rintro e wa ⟨rfl, hba⟩; have Ka := Kd.later hba; have J1 := Ka.held n4 n13 n14 n15)
      | (go_at_call 204; (with_reducible refine (l4Draw_any g A n cap s l c sh q o m cap' zs 2 x4 x13 x14 x15 _ HM.out ?_ ?_ hgq).mono ?_); exact Ka.cur; exact (Ka.row.more Ka.grw.size); rintro e wb ⟨p, pc, ps, rfl, hown, hl, hcN, hgN⟩; obtain ⟨hv, hv1, hv2⟩ := Ka.list hl hown; have Kb := Ka.draw L hgN hcN; have J2 := Kb.held n4 n13 n14 n15; have f12 := Kb.var.frozen; have m12 := Kb.cell Kb.shp.at12; have Kc := Kb.more L _ hv hv1 hv2; have J3 := Kc.held (i1 := 13) (i2 := 14) (i3 := 15) (x4 := x4) (y1 := x13) (y2 := x14) (y3 := x15) (by simpa using n4) (by simpa using n13) (by simpa using n14) (by simpa using n15)))
  all_goals
    have K28 := Kc
    clear Ka Kb Kc Kd J0 J1 J2 J3 hv hv1 hv2 hown hcN hgN K27
    have HI := Lib.hid K28.shp.info
    have HS := Lib.hid (show ZN.size = _ from K28.shp.size.symm)
    have H1 := Lib.hid (K28.shp.one K28.cer.one K28.mor.one)
    have HK := Lib.hid (K28.fin L)
    have HH := Lib.hid K28.shp
    have HC := Lib.hid K28.cm
    have HV := Lib.hid K28.var
    have HR := Lib.hid K28.res
    clear K28
    go_wp2_with (first | (refine wpList_load_box 85 _ rfl V rfl 85 _ HV.out _ Tryz.underlying85 rfl HI.out (by simp [Region.wanted, yielded]) ?_) | (refine wpList_store_row rfl 85 _ _ rfl (w.heap.size + 1) _ rfl rfl 85 ZN HR.out HI.out HS.out H1.out ?_))
    exact bodyPost_ret (results_cell_row Tryz.results160 _ _ (w.heap.size + 1) 85 _ (0, 0) _ rfl HK.out.1 Tryz.underlying85 rfl HI.out) rfl ⟨_, _, _, rfl, HH.out, HK.out.2.1, HK.out.2.2.1, HC.out, HK.out.2.2.2.1, HK.out.2.2.2.2⟩

end Go.Proofs.YtjdepjpjjgkmbaaGreat
