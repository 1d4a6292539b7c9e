/- What SealOf and SealRight of impl/l03_claim.go answer at every group, claim and seal: contracts of each of them. -/
import Derived.Test.YtdabmnhbmdaodaaClaim
namespace Go.Proofs.Ytdabmnhbmdaodaa
open Go.RowKit

/-- What a seal's making reads is as it was. -/
theorem sealKeep {w w' : World} {g gc b o : Nat} {tg tc : TypeId} {v0 v1 v2 v3 v4 u0 u1 u2 u3 u4 kv : Value} {r : Option Nat} (DG : Box w g tg #[v0, v1, v2, v3, v4]) (DC : Box w gc tc #[u0, u1, u2, u3, u4]) (hb : b < w.heap.size) (k : w.cell? ⟨b, o, none⟩ = some kv)
    (G : w.grownBy w' r) (h1 : r ≠ some g) (h2 : r ≠ some gc) (h3 : r ≠ some b) :
    w'.cell? ⟨g, 4, none⟩ = some v4 ∧ w'.cell? ⟨gc, 0, none⟩ = some u0 ∧ w'.cell? ⟨gc, 1, none⟩ = some u1 ∧ w'.cell? ⟨gc, 2, none⟩ = some u2 ∧ w'.cell? ⟨gc, 3, none⟩ = some u3 ∧ w'.cell? ⟨gc, 4, none⟩ = some u4 ∧ w'.cell? ⟨b, o, none⟩ = some kv :=
  ⟨(DG.kept G h1).cell 4, (DC.kept G h2).cell 0, (DC.kept G h2).cell 1, (DC.kept G h2).cell 2, (DC.kept G h2).cell 3, (DC.kept G h2).cell 4, (World.cell?_of_block (G.block b hb (fun e => h3 e.symm))).trans k⟩

/-- And so where two cells of another block are written. -/
theorem sealSet {w : World} {g gc b o q : Nat} {v4 u0 u1 u2 u3 u4 kv x y : Value}
    (K : w.cell? ⟨g, 4, none⟩ = some v4 ∧ w.cell? ⟨gc, 0, none⟩ = some u0 ∧ w.cell? ⟨gc, 1, none⟩ = some u1 ∧ w.cell? ⟨gc, 2, none⟩ = some u2 ∧ w.cell? ⟨gc, 3, none⟩ = some u3 ∧ w.cell? ⟨gc, 4, none⟩ = some u4 ∧ w.cell? ⟨b, o, none⟩ = some kv)
    (h1 : g ≠ q) (h2 : gc ≠ q) (h3 : b ≠ q) (w' : World) (hw : w' = (w.setCell ⟨q, 0, none⟩ x).setCell ⟨q, 1, none⟩ y) :
    w'.cell? ⟨g, 4, none⟩ = some v4 ∧ w'.cell? ⟨gc, 0, none⟩ = some u0 ∧ w'.cell? ⟨gc, 1, none⟩ = some u1 ∧ w'.cell? ⟨gc, 2, none⟩ = some u2 ∧ w'.cell? ⟨gc, 3, none⟩ = some u3 ∧ w'.cell? ⟨gc, 4, none⟩ = some u4 ∧ w'.cell? ⟨b, o, none⟩ = some kv := by
  have F : ∀ b o, b ≠ q → w'.cell? ⟨b, o, none⟩ = w.cell? ⟨b, o, none⟩ := fun b o h => by
    rw [hw, World.cell?_setCell_other _ _ _ _ (fun e => h (congrArg Addr.block e).symm), World.cell?_setCell_other _ _ _ _ (fun e => h (congrArg Addr.block e).symm)]
  simp only [F _ _ h1, F _ _ h2, F _ _ h3]
  exact K

set_option maxHeartbeats 1000000 in
theorem sealOf_any (s l c sh : Int) (A : Option Addr) (n cap : Nat) (zs : List Int) (ck ch ct cq cv x : Int) (w : World) (hm : n ≤ maxLen) (hr : Row w w.heap.size A n zs) :
    Calls Try.prog 78 #[.agg #[.int .i64 s, .int .i64 l, .int .i64 c, .int .i64 sh, .slice A n cap], .agg #[.int .i64 ck, .int .i64 ch, .int .i64 ct, .int .i64 cq, .int .i64 cv], .int .i64 x] w fun e w' => e = .returned (seV s l c sh zs ck ch ct cq cv x) ∧ Below w.heap.size w w' := by
  have HR := Lib.hid hr
  have HM := Lib.hid hm
  clear hr hm
  have DG := ((Box.new w 33 #[.int .i64 s, .int .i64 l, .int .i64 c, .int .i64 sh, .slice A n cap]).alloc (.cells #[.int .i64 ck, .int .i64 ch, .int .i64 ct, .int .i64 cq, .int .i64 cv] 37)).alloc (.cells #[.int .i64 0, .int .i64 0] 30)
  have DC := (Box.new (w.alloc (.cells #[.int .i64 s, .int .i64 l, .int .i64 c, .int .i64 sh, .slice A n cap] 33)) 37 #[.int .i64 ck, .int .i64 ch, .int .i64 ct, .int .i64 cq, .int .i64 cv]).alloc (.cells #[.int .i64 0, .int .i64 0] 30)
  have X := Box.new ((w.alloc (.cells #[.int .i64 s, .int .i64 l, .int .i64 c, .int .i64 sh, .slice A n cap] 33)).alloc (.cells #[.int .i64 ck, .int .i64 ch, .int .i64 ct, .int .i64 cq, .int .i64 cv] 37)) 30 #[.int .i64 0, .int .i64 0]
  have hb0 := bel_trans (bel_trans (bel_alloc w (.cells #[.int .i64 s, .int .i64 l, .int .i64 c, .int .i64 sh, .slice A n cap] 33)) (bel_alloc _ (.cells #[.int .i64 ck, .int .i64 ch, .int .i64 ct, .int .i64 cq, .int .i64 cv] 37))) (bel_alloc _ (.cells #[.int .i64 0, .int .i64 0] 30))
  simp only [World.size_alloc] at DC X
  go_enter Try.func78, Try.ntmps78
  go_wp2_with fail
  generalize (((w.alloc _).alloc _).alloc _ : World) = w0 at hb0 DG DC X ⊢
  refine (claimOk_any ck ch ct cq cv w0).mono ?_
  rintro e w1 ⟨rfl, hb1⟩
  have DG1 := DG.later hb1 DG.lt
  have DC1 := DC.later hb1 DC.lt
  have X1 := X.later hb1 X.lt
  have E1 := bel_trans hb0 hb1
  clear DG DC X hb0 hb1
  rcases h1 : clB ck ch ct cq cv with _ | _
  · have H := Lib.hid (seV_no (seB_1 h1 s l c sh zs x))
    obtain ⟨x0, x1⟩ := X1.two
    have fx := X1.frozen
    go_wp2
    exact bodyPost_ret (v := .tuple #[.agg #[.int .i64 0, .int .i64 0], .bool false]) (by simp [results, Try.results78, go_sem, x0, x1]) rfl ⟨by rw [H.out], (E1.setCell (by simp; omega) _).setCell (by simp; omega) _⟩
  obtain ⟨g0, g1, g2, g3, g4⟩ := DG1.five
  go_wp2_with fail
  refine (server_any s l c sh A n cap zs x w1 HM.out ((HR.out.below E1 (Nat.le_refl _)).more E1.size)).mono ?_
  rintro e w2 ⟨rfl, hb2⟩
  have DG2 := DG1.later hb2 DG1.lt
  have DC2 := DC1.later hb2 DC1.lt
  have X2 := X1.later hb2 X1.lt
  have E2 := bel_trans E1 hb2
  clear DG1 DC1 X1 E1 hb2 g0 g1 g2 g3 g4
  rcases h2 : srvB s l c sh zs x with _ | _
  · have H := Lib.hid (seV_no (seB_2 h2 ck ch ct cq cv))
    obtain ⟨x0, x1⟩ := X2.two
    have fx := X2.frozen
    go_wp2
    exact bodyPost_ret (v := .tuple #[.agg #[.int .i64 0, .int .i64 0], .bool false]) (by simp [results, Try.results78, go_sem, x0, x1]) rfl ⟨by rw [H.out], (E2.setCell (by simp; omega) _).setCell (by simp; omega) _⟩
  have H := Lib.hid (seV_yes (seB_3 h1 h2))
  have HX := Lib.hid (mixable_seal h1 h2)
  obtain ⟨hx0, hx9, hxn, hk1, hk2⟩ := srvB_key h2
  have hzn := HR.out.1
  rw [hzn] at hxn
  obtain ⟨b, o, hA, hbB, hcell⟩ := HR.out.2 (by omega)
  subst hA
  have hxk := hcell x.toNat hxn
  have hxi : x < (n : Int) := by omega
  go_wp2_with fail
  refine (mixer_any w2).mono ?_
  rintro e w3 ⟨rfl, M, hb3⟩
  have DG3 := DG2.later hb3 DG2.lt
  have DC3 := DC2.later hb3 DC2.lt
  have X3 := X2.later hb3 X2.lt
  have E3 := bel_trans E2 hb3
  have hs2 := E2.size
  have hxl := X2.lt
  clear DG2 DC2 X2 E2 hb3
  obtain ⟨g0, g1, g2, g3, g4⟩ := DG3.five
  obtain ⟨c0, c1, c2, c3, c4⟩ := DC3.five
  have k0 := (E3.cell (p := ⟨b, o + x.toNat, none⟩) hbB).trans hxk
  clear hcell hxk hzn
  have hbl : b < w3.heap.size := Nat.lt_of_lt_of_le hbB E3.size
  have hn1 : w.heap.size ≠ w.heap.size + 1 + 1 := by omega
  have hn2 : b ≠ w.heap.size + 1 + 1 := by omega
  have hn3 : w.heap.size + 1 ≠ w.heap.size + 1 + 1 := by omega
  go_wp2_with fail
  go_region_held3 (fun w' => w'.cell? ⟨w.heap.size, 4, none⟩ = some (.slice (some ⟨b, o, none⟩) n cap) ∧ w'.cell? ⟨w.heap.size + 1, 0, none⟩ = some (.int .i64 ck) ∧ w'.cell? ⟨w.heap.size + 1, 1, none⟩ = some (.int .i64 ch) ∧ w'.cell? ⟨w.heap.size + 1, 2, none⟩ = some (.int .i64 ct) ∧ w'.cell? ⟨w.heap.size + 1, 3, none⟩ = some (.int .i64 cq) ∧ w'.cell? ⟨w.heap.size + 1, 4, none⟩ = some (.int .i64 cv) ∧ w'.cell? ⟨b, o + x.toNat, none⟩ = some (.int .i64 (nth zs x.toNat))) (first | (with_reducible exact sealSet K6 hn1 hn3 hn2 _ rfl) | (with_reducible exact K6) | (with_reducible exact K5) | go_keep)
    (first
      | (go_at_call 97; refine (digest_any ck ch ct cq cv _).mono ?_; rintro e w5 ⟨rfl, hb5⟩; have F5 := bel_drew' hb5; have K5 := sealKeep DG3 DC3 hbl k0 (grown_bel F5 none) (by simp) (by simp) (by simp))
      | (go_at_call 104; refine (mixIn_any w2.heap.size w5.heap.size 3 [nth zs x.toNat, digN ck ch ct cq cv, x] 7 _ (by omega) (by omega) HX.out rfl (by omega) ?_ ?_ ?_).mono ?_; exact (M.later F5 M.lt).alloc _; exact Box.new w5 2 _; exact Nat.ne_of_gt (M.later F5 M.lt).lt; rintro e w6 ⟨rfl, G6⟩; have G7 := grown_trans (grown_alloc (grown_bel F5 (some w2.heap.size)) _) G6; have K6 := sealKeep DG3 DC3 hbl k0 G7 (by simp; omega) (by simp; omega) (by simp; omega); have X6 := X3.kept G7 (by simp; omega); have E6 := bel_grown E3 G7 hs2; clear G6; obtain ⟨x0, x1⟩ := X6.two; have fx := X6.frozen))
  go_wp2
  exact bodyPost_ret (v := .tuple #[.agg #[.int .i64 x, .int .i64 (tagN zs ck ch ct cq cv x)], .bool true]) (by simp [results, Try.results78, go_sem, x0, x1]; rfl) rfl ⟨by rw [H.out], (E6.setCell (by simp; omega) _).setCell (by simp; omega) _⟩

set_option maxHeartbeats 1000000 in
theorem sealRight_any (s l c sh : Int) (A : Option Addr) (n cap : Nat) (zs : List Int) (ck ch ct cq cv x t : Int) (w : World) (hm : n ≤ maxLen) (hr : Row w w.heap.size A n zs) :
    Calls Try.prog 50 #[.agg #[.int .i64 s, .int .i64 l, .int .i64 c, .int .i64 sh, .slice A n cap], .agg #[.int .i64 ck, .int .i64 ch, .int .i64 ct, .int .i64 cq, .int .i64 cv], .agg #[.int .i64 x, .int .i64 t]] w fun e w' => e = .returned (.bool (riB s l c sh zs ck ch ct cq cv x t)) ∧ Below w.heap.size w w' := by
  have HR := Lib.hid hr
  have HM := Lib.hid hm
  clear hr hm
  have X := Box.new ((w.alloc (.cells #[.int .i64 s, .int .i64 l, .int .i64 c, .int .i64 sh, .slice A n cap] 33)).alloc (.cells #[.int .i64 ck, .int .i64 ch, .int .i64 ct, .int .i64 cq, .int .i64 cv] 37)) 30 #[.int .i64 x, .int .i64 t]
  have hb0 := bel_trans (bel_trans (bel_alloc w (.cells #[.int .i64 s, .int .i64 l, .int .i64 c, .int .i64 sh, .slice A n cap] 33)) (bel_alloc _ (.cells #[.int .i64 ck, .int .i64 ch, .int .i64 ct, .int .i64 cq, .int .i64 cv] 37))) (bel_alloc _ (.cells #[.int .i64 x, .int .i64 t] 30))
  simp only [World.size_alloc] at X
  go_enter Try.func50, Try.ntmps50
  go_wp2_with fail
  generalize (((w.alloc _).alloc _).alloc _ : World) = w0 at hb0 X ⊢
  have C := sealOf_any s l c sh A n cap zs ck ch ct cq cv x w0 HM.out ((HR.out.below hb0 (Nat.le_refl _)).more hb0.size)
  rcases h : seB s l c sh zs ck ch ct cq cv x with _ | _
  · have e := Lib.hid (riB_no h t)
    rw [seV_no h] at C
    refine C.mono ?_
    rintro e w1 ⟨rfl, hb1⟩
    have E1 := bel_trans hb0 hb1
    go_wp2
    go_ret
    exact ⟨by rw [e.out]; rfl, bel_trans E1 (bel_alloc _ _)⟩
  · have e := Lib.hid (riB_yes h t)
    rw [seV_yes h] at C
    generalize tagN zs ck ch ct cq cv x = tg at C e
    refine C.mono ?_
    rintro e w1 ⟨rfl, hb1⟩
    have E1 := bel_trans hb0 hb1
    have X1 := X.later hb1 X.lt
    obtain ⟨x0, x1⟩ := X1.two
    have xl := X1.lt
    clear C X hb0 hb1
    by_cases ht : t = tg
    · subst ht
      go_wp2
      go_ret
      exact ⟨by rw [e.out]; simp, bel_trans E1 (bel_alloc _ _)⟩
    · have ht1 : (t == tg) = false := by simpa using ht
      have ht2 : (tg == t) = false := by simpa using fun e => ht e.symm
      have H := Lib.hid ht
      go_wp2
      go_ret
      exact ⟨by rw [e.out]; simp [H.out], bel_trans E1 (bel_alloc _ _)⟩

end Go.Proofs.Ytdabmnhbmdaodaa
