/- What SealOf and SealRight of spec/l03_claim.go answer at every group, claim and seal: contracts of each of them. -/
import Derived.Test.YthfakifgnaollaaSpecClaim
import Derived.Test.YthfakifgnaollaaSeal
namespace Go.Proofs.Ythfakifgnaollaa
open Go.RowKit

set_option maxHeartbeats 1000000 in
theorem specSeal_any (s l c sh : Int) (A : Option Addr) (n cap : Nat) (zs : List Int) (ck ch ct cq cv x : Int) (w : World) (hm : n ≤ maxLen) (hr : Row w w.heap.size A n zs) :
    Calls Try.prog 66 #[.agg #[.int .i64 s, .int .i64 l, .int .i64 c, .int .i64 sh, .slice A n cap], .agg #[.int .i64 ck, .int .i64 ch, .int .i64 ct, .int .i64 cq, .int .i64 cv], .int .i64 x] w fun e w' => e = .returned (seV s l c sh zs ck ch ct cq cv x) ∧ Below w.heap.size w w' := by
  have HR := Lib.hid hr
  have HM := Lib.hid hm
  clear hr hm
  have DG := ((Box.new w 26 #[.int .i64 s, .int .i64 l, .int .i64 c, .int .i64 sh, .slice A n cap]).alloc (.cells #[.int .i64 ck, .int .i64 ch, .int .i64 ct, .int .i64 cq, .int .i64 cv] 83)).alloc (.cells #[.int .i64 0, .int .i64 0] 78)
  have DC := (Box.new (w.alloc (.cells #[.int .i64 s, .int .i64 l, .int .i64 c, .int .i64 sh, .slice A n cap] 26)) 83 #[.int .i64 ck, .int .i64 ch, .int .i64 ct, .int .i64 cq, .int .i64 cv]).alloc (.cells #[.int .i64 0, .int .i64 0] 78)
  have X := Box.new ((w.alloc (.cells #[.int .i64 s, .int .i64 l, .int .i64 c, .int .i64 sh, .slice A n cap] 26)).alloc (.cells #[.int .i64 ck, .int .i64 ch, .int .i64 ct, .int .i64 cq, .int .i64 cv] 83)) 78 #[.int .i64 0, .int .i64 0]
  have hb0 := bel_trans (bel_trans (bel_alloc w (.cells #[.int .i64 s, .int .i64 l, .int .i64 c, .int .i64 sh, .slice A n cap] 26)) (bel_alloc _ (.cells #[.int .i64 ck, .int .i64 ch, .int .i64 ct, .int .i64 cq, .int .i64 cv] 83))) (bel_alloc _ (.cells #[.int .i64 0, .int .i64 0] 78))
  simp only [World.size_alloc] at DC X
  go_enter Try.func66, Try.ntmps66
  go_wp2_with fail
  generalize (((w.alloc _).alloc _).alloc _ : World) = w0 at hb0 DG DC X ⊢
  refine (specClaim_any ck ch ct cq cv w0).mono ?_
  rintro e w1 ⟨rfl, hb1⟩
  have DG1 := DG.later hb1 DG.lt
  have DC1 := DC.later hb1 DC.lt
  have X1 := X.later hb1 X.lt
  have E1 := bel_trans hb0 hb1
  clear DG DC X hb0 hb1
  rcases h1 : clB ck ch ct cq cv with _ | _
  · have H := Lib.hid (seV_no (seB_1 h1 s l c sh zs x))
    obtain ⟨x0, x1⟩ := X1.two
    have fx := X1.frozen
    go_wp2
    exact bodyPost_ret (v := .tuple #[.agg #[.int .i64 0, .int .i64 0], .bool false]) (by simp [results, Try.results66, go_sem, x0, x1]) rfl ⟨by rw [H.out], (E1.setCell (by simp; omega) _).setCell (by simp; omega) _⟩
  obtain ⟨g0, g1, g2, g3, g4⟩ := DG1.five
  go_wp2_with fail
  refine (specServer_any s l c sh A n cap zs x w1 HM.out ((HR.out.below E1 (Nat.le_refl _)).more E1.size)).mono ?_
  rintro e w2 ⟨rfl, hb2⟩
  have DG2 := DG1.later hb2 DG1.lt
  have DC2 := DC1.later hb2 DC1.lt
  have X2 := X1.later hb2 X1.lt
  have E2 := bel_trans E1 hb2
  clear DG1 DC1 X1 E1 hb2 g0 g1 g2 g3 g4
  rcases h2 : srvB s l c sh zs x with _ | _
  · have H := Lib.hid (seV_no (seB_2 h2 ck ch ct cq cv))
    obtain ⟨x0, x1⟩ := X2.two
    have fx := X2.frozen
    go_wp2
    exact bodyPost_ret (v := .tuple #[.agg #[.int .i64 0, .int .i64 0], .bool false]) (by simp [results, Try.results66, go_sem, x0, x1]) rfl ⟨by rw [H.out], (E2.setCell (by simp; omega) _).setCell (by simp; omega) _⟩
  have H := Lib.hid (seV_yes (seB_3 h1 h2))
  have HX := Lib.hid (mixable_seal h1 h2)
  obtain ⟨hx0, hx9, hxn, hk1, hk2⟩ := srvB_key h2
  have hzn := HR.out.1
  rw [hzn] at hxn
  obtain ⟨b, o, hA, hbB, hcell⟩ := HR.out.2 (by omega)
  subst hA
  have hxk := hcell x.toNat hxn
  have hxi : x < (n : Int) := by omega
  have DG3 := DG2
  have DC3 := DC2
  have X3 := X2
  have E3 := E2
  have hs2 := E2.size
  have hxl := X2.lt
  clear DG2 DC2 X2 E2
  obtain ⟨g0, g1, g2, g3, g4⟩ := DG3.five
  obtain ⟨c0, c1, c2, c3, c4⟩ := DC3.five
  have k0 := (E3.cell (p := ⟨b, o + x.toNat, none⟩) hbB).trans hxk
  clear hcell hxk hzn
  have hbl : b < w2.heap.size := Nat.lt_of_lt_of_le hbB E3.size
  have hn1 : w.heap.size ≠ w.heap.size + 1 + 1 := by omega
  have hn2 : b ≠ w.heap.size + 1 + 1 := by omega
  have hn3 : w.heap.size + 1 ≠ w.heap.size + 1 + 1 := by omega
  go_wp2_with fail
  go_region_held3 (fun w' => w'.cell? ⟨w.heap.size, 4, none⟩ = some (.slice (some ⟨b, o, none⟩) n cap) ∧ w'.cell? ⟨w.heap.size + 1, 0, none⟩ = some (.int .i64 ck) ∧ w'.cell? ⟨w.heap.size + 1, 1, none⟩ = some (.int .i64 ch) ∧ w'.cell? ⟨w.heap.size + 1, 2, none⟩ = some (.int .i64 ct) ∧ w'.cell? ⟨w.heap.size + 1, 3, none⟩ = some (.int .i64 cq) ∧ w'.cell? ⟨w.heap.size + 1, 4, none⟩ = some (.int .i64 cv) ∧ w'.cell? ⟨b, o + x.toNat, none⟩ = some (.int .i64 (nth zs x.toNat))) (first | (with_reducible exact sealSet K6 hn1 hn3 hn2 _ rfl) | (with_reducible exact K6) | (with_reducible exact K5) | go_keep)
    (first
      | (go_at_call 79; refine (specDigest_any ck ch ct cq cv _).mono ?_; rintro e w5 ⟨rfl, hb5⟩; have F5 := bel_drew' hb5; have K5 := sealKeep DG3 DC3 hbl k0 (grown_bel F5 none) (by simp) (by simp) (by simp))
      | (go_at_call 78; refine (l3Mix_any w5.heap.size 3 [nth zs x.toNat, digN ck ch ct cq cv, x] _ HX.out rfl (by omega) ?_).mono ?_; exact Box.new w5 2 _; rintro e w6 ⟨rfl, hb6⟩; have F6 := bel_trans F5 (bel_trans (bel_alloc w5 _) hb6); have G7 := grown_bel F6 none; have K6 := sealKeep DG3 DC3 hbl k0 G7 (by simp) (by simp) (by simp); have X6 := X3.kept G7 (by simp); have E6 := bel_trans E3 F6; clear hb6; obtain ⟨x0, x1⟩ := X6.two; have fx := X6.frozen))
  go_wp2
  exact bodyPost_ret (v := .tuple #[.agg #[.int .i64 x, .int .i64 (tagN zs ck ch ct cq cv x)], .bool true]) (by simp [results, Try.results66, go_sem, x0, x1]; rfl) rfl ⟨by rw [H.out], (E6.setCell (by simp; omega) _).setCell (by simp; omega) _⟩

/-- A seal and a flag, whatever they are. -/
theorem seV_form (s l c sh : Int) (zs : List Int) (ck ch ct cq cv x : Int) : ∃ (a t : Int) (f : Bool), seV s l c sh zs ck ch ct cq cv x = .tuple #[.agg #[.int .i64 a, .int .i64 t], .bool f] := by
  rcases h : seB s l c sh zs ck ch ct cq cv x with _ | _
  · exact ⟨_, _, _, seV_no h⟩
  · exact ⟨_, _, _, seV_yes h⟩
theorem specSeal_is {s l c sh : Int} {zs : List Int} {ck ch ct cq cv x a t : Int} {f : Bool} (h : seV s l c sh zs ck ch ct cq cv x = .tuple #[.agg #[.int .i64 a, .int .i64 t], .bool f]) (A : Option Addr) (n cap : Nat) (w : World) (hm : n ≤ maxLen) (hr : Row w w.heap.size A n zs) :
    Calls Try.prog 66 #[.agg #[.int .i64 s, .int .i64 l, .int .i64 c, .int .i64 sh, .slice A n cap], .agg #[.int .i64 ck, .int .i64 ch, .int .i64 ct, .int .i64 cq, .int .i64 cv], .int .i64 x] w fun e w' => e = .returned (.tuple #[.agg #[.int .i64 a, .int .i64 t], .bool f]) ∧ Below w.heap.size w w' := h ▸ specSeal_any s l c sh A n cap zs ck ch ct cq cv x w hm hr

end Go.Proofs.Ythfakifgnaollaa
