/- The exact laws of CertCount, CertOk and ProvenOk answer true, whatever they are given: walks of each of them (written by laws_cert.py). -/
import Derived.Test.YtdabmnhbmdaodaaCopiesClaim
import Derived.Test.YtdabmnhbmdaodaaCopiesSeal
import Derived.Test.YtdabmnhbmdaodaaSpecProven
namespace Go.Proofs.Ytdabmnhbmdaodaa
open Go.RowKit

theorem seven {w : World} {g g' : Nat} {t t' : TypeId} {v0 v1 v2 v3 v4 u0 u1 : Value} (h : Box w g t #[v0, v1, v2, v3, v4]) (h' : Box w g' t' #[u0, u1]) :
    w.cell? ⟨g, 0, none⟩ = some v0 ∧ w.cell? ⟨g, 1, none⟩ = some v1 ∧ w.cell? ⟨g, 2, none⟩ = some v2 ∧ w.cell? ⟨g, 3, none⟩ = some v3 ∧ w.cell? ⟨g, 4, none⟩ = some v4 ∧ w.cell? ⟨g', 0, none⟩ = some u0 ∧ w.cell? ⟨g', 1, none⟩ = some u1 :=
  ⟨h.cell 0, h.cell 1, h.cell 2, h.cell 3, h.cell 4, h'.cell 0, h'.cell 1⟩

set_option maxRecDepth 100000 in
set_option maxHeartbeats 4000000 in
theorem exactCount_small (s l c sh : Int) (A : Option Addr) (n cap : Nat) (zs : List Int) (ck ch ct cq cv : Int) (P : Option Addr) (m pcap : Nat) (ps : List (Int × Int)) (w : World) (hm : n + m ≤ 1048576) (hr : Row w w.heap.size A n zs) (hp : Pairs w w.heap.size P m ps) :
    Calls Try.prog 7 #[.agg #[.int .i64 s, .int .i64 l, .int .i64 c, .int .i64 sh, .slice A n cap], .agg #[.int .i64 ck, .int .i64 ch, .int .i64 ct, .int .i64 cq, .int .i64 cv], .slice P m pcap] w fun e w' => e = .returned (.bool true) ∧ Below w.heap.size w w' := by
  have hm1 : n ≤ 1048576 := by omega
  have hm2 : m ≤ 1048576 := by omega
  have HX : Hid (n ≤ maxLen) := by show n ≤ maxLen; unfold maxLen; omega
  have HR := Lib.hid hr
  have HP := Lib.hid hp
  clear hr hp
  have D := (Box.new w 51 #[.int .i64 s, .int .i64 l, .int .i64 c, .int .i64 sh, .slice A n cap]).alloc (.cells #[.int .i64 ck, .int .i64 ch, .int .i64 ct, .int .i64 cq, .int .i64 cv] 54)
  have X := Box.new (w.alloc (.cells #[.int .i64 s, .int .i64 l, .int .i64 c, .int .i64 sh, .slice A n cap] 51)) 54 #[.int .i64 ck, .int .i64 ch, .int .i64 ct, .int .i64 cq, .int .i64 cv]
  have hb0 := bel_trans (bel_alloc w (.cells #[.int .i64 s, .int .i64 l, .int .i64 c, .int .i64 sh, .slice A n cap] 51)) (bel_alloc _ (.cells #[.int .i64 ck, .int .i64 ch, .int .i64 ct, .int .i64 cq, .int .i64 cv] 54))
  simp only [World.size_alloc] at X
  go_enter Try.func7, Try.ntmps7
  go_wp2_with fail
  generalize ((w.alloc _).alloc _ : World) = w0 at D X hb0 ⊢
  refine (szGroup_le s l c sh A n cap w0 hm1).mono ?_
  rintro e w1 ⟨rfl, hb1⟩
  have D1 := D.later hb1 D.lt
  have X1 := X.later hb1 X.lt
  have E1 := bel_trans hb0 hb1
  clear D X hb0 hb1
  have hnn : ¬ ((1048576 : Int) - n < 0) := by omega
  have hnm : ¬ ((1048576 : Int) - n - m < 0) := by omega
  go_wp2_with fail
  refine (szSeals_le P m pcap (1048576 - n) w1 (by omega) (by omega)).mono ?_
  rintro e w1' ⟨rfl, rfl⟩
  have R1 := (HR.out.below E1 (Nat.le_refl _)).more E1.size
  have P1 := (HP.out.below E1 (Nat.le_refl _)).more E1.size
  obtain ⟨a0, a1, a2, a3, a4⟩ := D1.five
  obtain ⟨x0, x1, x2, x3, x4⟩ := X1.five
  go_wp2_with fail
  -- the model, on copies
  go_region_held3 (fun w' => w'.cell? ⟨w.heap.size, 0, none⟩ = some (.int .i64 s) ∧ w'.cell? ⟨w.heap.size, 1, none⟩ = some (.int .i64 l) ∧ w'.cell? ⟨w.heap.size, 2, none⟩ = some (.int .i64 c) ∧ w'.cell? ⟨w.heap.size, 3, none⟩ = some (.int .i64 sh) ∧ w'.cell? ⟨w.heap.size, 4, none⟩ = some (.slice A n cap) ∧ w'.cell? ⟨w.heap.size + 1, 0, none⟩ = some (.int .i64 ck) ∧ w'.cell? ⟨w.heap.size + 1, 1, none⟩ = some (.int .i64 ch) ∧ w'.cell? ⟨w.heap.size + 1, 2, none⟩ = some (.int .i64 ct) ∧ w'.cell? ⟨w.heap.size + 1, 3, none⟩ = some (.int .i64 cq) ∧ w'.cell? ⟨w.heap.size + 1, 4, none⟩ = some (.int .i64 cv))
    (first | (with_reducible exact K5) | (with_reducible exact K4) | (with_reducible exact K3) | (with_reducible exact K2) | go_keep)
    (first
      | (go_at_call 31; refine (toGroup_any s l c sh A n cap zs _ hm1 ?_).mono ?_; exact R1; rintro e w2 ⟨g2, hg2, rfl, hrow2, hb2⟩; have F2 := bel_drew' hb2; have K2 := ten (D1.later F2 D1.lt) (X1.later F2 X1.lt))
      | (go_at_call 32; refine (toClaim_any ck ch ct cq cv _).mono ?_; rintro e w3 ⟨rfl, hb3⟩; have F3 := bel_trans F2 hb3; have hrow3 := (hrow2.below hb3 (Nat.le_refl _)).more hb3.size; have P3 := P1.later F3; have K3 := ten (D1.later F3 D1.lt) (X1.later F3 X1.lt))
      | (go_at_call 26; refine (toSeals_any P m pcap ps _ hm2 P3).mono ?_; rintro e w4 ⟨g4, hg4, rfl, hpl, hh4, hb4⟩; have F4 := bel_trans F3 hb4; have hrow4 := (hrow3.below hb4 (Nat.le_refl _)).more hb4.size; have Q4 := hh4.pairs; rw [hpl] at Q4; have K4 := ten (D1.later F4 D1.lt) (X1.later F4 X1.lt); clear hh4)
      | (go_at_call 18; refine (specCount_is s l c sh _ n n zs ck ch ct cq cv _ m m ps _ HX.out hrow4 (by omega) Q4).mono ?_; rintro e w5 ⟨rfl, hb5⟩; have F5 := bel_trans F4 hb5; have K5 := ten (D1.later F5 D1.lt) (X1.later F5 X1.lt)))
  have D2 := D1.later F5 D1.lt
  have X2 := X1.later F5 X1.lt
  have E2 := bel_trans E1 F5
  clear D1 X1 E1 R1 P1 F2 F3 F4 F5 K2 K3 K4 K5 hb2 hb3 hb4 hb5 hrow2 hrow3 hrow4 P3 Q4 hpl hg4 hg2 a0 a1 a2 a3 a4 x0 x1 x2 x3 x4
  obtain ⟨a0, a1, a2, a3, a4⟩ := D2.five
  go_wp2_with fail
  -- the copies that are handed in
  refine (toGroup_any s l c sh A n cap zs w5 hm1 ((HR.out.below E2 (Nat.le_refl _)).more E2.size)).mono ?_
  rintro e w4 ⟨g4, hg4, rfl, hrow4, hb4⟩
  have D4 := D2.later hb4 D2.lt
  have X4 := X2.later hb4 X2.lt
  have E4 := bel_trans E2 hb4
  clear D2 X2 E2 hb4 a0 a1 a2 a3 a4
  have Y := Box.new w4 33 #[.int .i64 s, .int .i64 l, .int .i64 c, .int .i64 sh, .slice (some ⟨g4, 0, none⟩) n n]
  have hb5 := bel_alloc w4 (.cells #[.int .i64 s, .int .i64 l, .int .i64 c, .int .i64 sh, .slice (some ⟨g4, 0, none⟩) n n] 33)
  go_wp2_with fail
  have D5 := D4.later hb5 D4.lt
  have X5 := X4.later hb5 X4.lt
  have E5 := bel_trans E4 hb5
  have hrow5 := (hrow4.below hb5 (Nat.le_refl _)).more hb5.size
  have hg4l : w.heap.size + 1 < w4.heap.size := X4.lt
  generalize (w4.alloc _ : World) = w5' at Y hb5 D5 X5 E5 hrow5 ⊢
  clear D4 X4 E4 hrow4
  refine (toSeals_any P m pcap ps w5' hm2 ((HP.out.below E5 (Nat.le_refl _)).more E5.size)).mono ?_
  rintro e w6 ⟨g6, hg6, rfl, hpl, hh6, hb6⟩
  have Q6 := hh6.pairs
  rw [hpl] at Q6
  have D6 := D5.later hb6 D5.lt
  have X6 := X5.later hb6 X5.lt
  have Y6 := Y.later hb6 Y.lt
  have E6 := bel_trans E5 hb6
  have hrow6 := (hrow5.below hb6 (Nat.le_refl _)).more hb6.size
  replace hpl := Lib.hid hpl
  clear D5 X5 Y E5 hrow5 hb6 hb5 hh6
  obtain ⟨a0, a1, a2, a3, a4⟩ := Y6.five
  obtain ⟨x0, x1, x2, x3, x4⟩ := X6.five
  go_wp2_with fail
  -- the program
  go_region_held3 (fun w' => w'.cell? ⟨w4.heap.size, 0, none⟩ = some (.int .i64 s) ∧ w'.cell? ⟨w4.heap.size, 1, none⟩ = some (.int .i64 l) ∧ w'.cell? ⟨w4.heap.size, 2, none⟩ = some (.int .i64 c) ∧ w'.cell? ⟨w4.heap.size, 3, none⟩ = some (.int .i64 sh) ∧ w'.cell? ⟨w4.heap.size, 4, none⟩ = some (.slice (some ⟨g4, 0, none⟩) n n) ∧ w'.cell? ⟨w.heap.size + 1, 0, none⟩ = some (.int .i64 ck) ∧ w'.cell? ⟨w.heap.size + 1, 1, none⟩ = some (.int .i64 ch) ∧ w'.cell? ⟨w.heap.size + 1, 2, none⟩ = some (.int .i64 ct) ∧ w'.cell? ⟨w.heap.size + 1, 3, none⟩ = some (.int .i64 cq) ∧ w'.cell? ⟨w.heap.size + 1, 4, none⟩ = some (.int .i64 cv))
    (first | (with_reducible exact K5) | (with_reducible exact K3) | go_keep)
    (first
      | (go_at_call 32; refine (toClaim_any ck ch ct cq cv _).mono ?_; rintro e w3 ⟨rfl, hb3⟩; have F3 := bel_drew' hb3; have hrow7 := (hrow6.below F3 (Nat.le_refl _)).more F3.size; have Q7 := Q6.later F3; have K3 := ten (Y6.later F3 Y6.lt) (X6.later F3 X6.lt))
      | (go_at_call 16; refine (count_is s l c sh _ n n zs ck ch ct cq cv _ m m ps _ HX.out hrow7 (by omega) Q7).mono ?_; rintro e wc ⟨rfl, hb7⟩; have F5 := bel_trans F3 hb7; have K5 := ten (Y6.later F5 Y6.lt) (X6.later F5 X6.lt)))
  have D7 := D6.later F5 D6.lt
  have Y7 := Y6.later F5 Y6.lt
  have E7 := bel_trans E6 F5
  have hrow8 := (hrow6.below F5 (Nat.le_refl _)).more F5.size
  have Q8 := Q6.later F5
  have R7 := (HR.out.below E7 (Nat.le_refl _)).more E7.size
  clear D6 X6 Y6 E6 hrow6 F3 F5 K3 K5 hb3 hb7 hrow7 Q7 Q6 a0 a1 a2 a3 a4 x0 x1 x2 x3 x4
  have hff : ((cntN s l c sh zs ck ch ct cq cv ps) != (cntN s l c sh zs ck ch ct cq cv ps)) = false := by simp
  obtain ⟨a0, a1, a2, a3, a4⟩ := D7.five
  obtain ⟨y0, y1, y2, y3, y4⟩ := Y7.five
  have hz1 := D7.lt
  have hz2 := Y7.lt
  have hnew : w.heap.size ≠ w4.heap.size := by omega
  go_wp2_with fail
  go_region_held3 (fun w' => w'.cell? ⟨w.heap.size, 0, none⟩ = some (.int .i64 s) ∧ w'.cell? ⟨w.heap.size, 1, none⟩ = some (.int .i64 l) ∧ w'.cell? ⟨w.heap.size, 2, none⟩ = some (.int .i64 c) ∧ w'.cell? ⟨w.heap.size, 3, none⟩ = some (.int .i64 sh) ∧ w'.cell? ⟨w.heap.size, 4, none⟩ = some (.slice A n cap) ∧ w'.cell? ⟨w4.heap.size, 0, none⟩ = some (.int .i64 s) ∧ w'.cell? ⟨w4.heap.size, 1, none⟩ = some (.int .i64 l) ∧ w'.cell? ⟨w4.heap.size, 2, none⟩ = some (.int .i64 c) ∧ w'.cell? ⟨w4.heap.size, 3, none⟩ = some (.int .i64 sh) ∧ w'.cell? ⟨w4.heap.size, 4, none⟩ = some (.slice (some ⟨g4, 0, none⟩) n n)) (first | (with_reducible exact K9) | (with_reducible exact K8) | go_keep)
    (first
      | (go_at_call 31; refine (toGroup_any s l c sh A n cap zs _ hm1 ?_).mono ?_; exact R7; rintro e w8 ⟨g8', hg8', rfl, hrow9, hb8⟩; have F8 := bel_drew' hb8; have hrow78 := (hrow8.below F8 (Nat.le_refl _)).more F8.size; have D8 := D7.later F8 D7.lt; have Y8 := Y7.later F8 Y7.lt; have E8 := bel_trans E7 F8; have Q9 := Q8.later F8; have K8 := ten D8 Y8)
      | (go_at_call 33; refine (eqGroup_same s l c sh _ _ n n n zs _ hm1 hrow78 hrow9).mono ?_; rintro e w9 ⟨rfl, hb9⟩; have K9 := ten (D8.later hb9 D8.lt) (Y8.later hb9 Y8.lt)))
  have E9 := bel_trans E8 hb9
  have Q10 := Q9.later hb9
  clear E8 Q9 Q8 K8 K9 D8 Y8 hrow78 hrow9 hb8 hb9 F8 R7 a0 a1 a2 a3 a4 y0 y1 y2 y3 y4
  go_wp2_with fail
  refine (toSeals_any P m pcap ps w9 hm2 ((HP.out.below E9 (Nat.le_refl _)).more E9.size)).mono ?_
  rintro e w10 ⟨g10, hg10, rfl, hpl', hh10, hb10⟩
  have Q11 := hh10.pairs
  rw [hpl'] at Q11
  have Q12 := Q10.later hb10
  have E10 := bel_trans E9 hb10
  replace hpl' := Lib.hid hpl'
  clear hh10
  go_wp2_with fail
  refine (eqSeals_same _ _ m m m ps w10 hm2 Q12 Q11).mono ?_
  rintro e w11 ⟨rfl, hb11⟩
  go_wp2
  go_ret
  exact ⟨rfl, bel_trans E10 hb11⟩
theorem exactCount_big (s l c sh : Int) (A : Option Addr) (n cap : Nat) (ck ch ct cq cv : Int) (P : Option Addr) (m pcap : Nat) (w : World) (hx : n ≤ maxLen) (hy : m ≤ maxLen) (hm : 1048576 < n + m) :
    Calls Try.prog 7 #[.agg #[.int .i64 s, .int .i64 l, .int .i64 c, .int .i64 sh, .slice A n cap], .agg #[.int .i64 ck, .int .i64 ch, .int .i64 ct, .int .i64 cq, .int .i64 cv], .slice P m pcap] w fun e w' => e = .returned (.bool true) ∧ Below w.heap.size w w' := by
  rcases Nat.lt_or_ge 1048576 n with h | h
  · go_enter Try.func7, Try.ntmps7
    go_wp2_with (go_at_call 30; refine (szGroup_gt s l c sh A n cap _ h hx).mono ?_; rintro e w1 ⟨rfl, hb1⟩; have E1 := bel_trans (bel_trans (bel_alloc w (.cells #[.int .i64 s, .int .i64 l, .int .i64 c, .int .i64 sh, .slice A n cap] 51)) (bel_alloc _ (.cells #[.int .i64 ck, .int .i64 ch, .int .i64 ct, .int .i64 cq, .int .i64 cv] 54))) hb1)
    go_ret
    exact ⟨rfl, E1⟩
  · have HY := Lib.hid hy
    have hnn : ¬ ((1048576 : Int) - n < 0) := by omega
    go_enter Try.func7, Try.ntmps7
    go_wp2_with (first
      | (go_at_call 30; refine (szGroup_le s l c sh A n cap _ h).mono ?_; rintro e w1 ⟨rfl, hb1⟩; have E1 := bel_trans (bel_trans (bel_alloc w (.cells #[.int .i64 s, .int .i64 l, .int .i64 c, .int .i64 sh, .slice A n cap] 51)) (bel_alloc _ (.cells #[.int .i64 ck, .int .i64 ch, .int .i64 ct, .int .i64 cq, .int .i64 cv] 54))) hb1)
      | (go_at_call 25; refine (szSeals_gt P m pcap (1048576 - n) _ (by omega) (by omega) (by omega) HY.out).mono ?_; rintro e w2 ⟨rfl, rfl⟩))
    go_ret
    exact ⟨rfl, E1⟩

set_option maxRecDepth 100000 in
set_option maxHeartbeats 4000000 in
theorem exactCertOk_small (s l c sh : Int) (A : Option Addr) (n cap : Nat) (zs : List Int) (ck ch ct cq cv : Int) (P : Option Addr) (m pcap : Nat) (ps : List (Int × Int)) (w : World) (hm : n + m ≤ 1048576) (hr : Row w w.heap.size A n zs) (hp : Pairs w w.heap.size P m ps) :
    Calls Try.prog 8 #[.agg #[.int .i64 s, .int .i64 l, .int .i64 c, .int .i64 sh, .slice A n cap], .agg #[.int .i64 ck, .int .i64 ch, .int .i64 ct, .int .i64 cq, .int .i64 cv], .slice P m pcap] w fun e w' => e = .returned (.bool true) ∧ Below w.heap.size w w' := by
  have hm1 : n ≤ 1048576 := by omega
  have hm2 : m ≤ 1048576 := by omega
  have HX : Hid (n ≤ maxLen) := by show n ≤ maxLen; unfold maxLen; omega
  have HR := Lib.hid hr
  have HP := Lib.hid hp
  clear hr hp
  have D := (Box.new w 51 #[.int .i64 s, .int .i64 l, .int .i64 c, .int .i64 sh, .slice A n cap]).alloc (.cells #[.int .i64 ck, .int .i64 ch, .int .i64 ct, .int .i64 cq, .int .i64 cv] 54)
  have X := Box.new (w.alloc (.cells #[.int .i64 s, .int .i64 l, .int .i64 c, .int .i64 sh, .slice A n cap] 51)) 54 #[.int .i64 ck, .int .i64 ch, .int .i64 ct, .int .i64 cq, .int .i64 cv]
  have hb0 := bel_trans (bel_alloc w (.cells #[.int .i64 s, .int .i64 l, .int .i64 c, .int .i64 sh, .slice A n cap] 51)) (bel_alloc _ (.cells #[.int .i64 ck, .int .i64 ch, .int .i64 ct, .int .i64 cq, .int .i64 cv] 54))
  simp only [World.size_alloc] at X
  go_enter Try.func8, Try.ntmps8
  go_wp2_with fail
  generalize ((w.alloc _).alloc _ : World) = w0 at D X hb0 ⊢
  refine (szGroup_le s l c sh A n cap w0 hm1).mono ?_
  rintro e w1 ⟨rfl, hb1⟩
  have D1 := D.later hb1 D.lt
  have X1 := X.later hb1 X.lt
  have E1 := bel_trans hb0 hb1
  clear D X hb0 hb1
  have hnn : ¬ ((1048576 : Int) - n < 0) := by omega
  have hnm : ¬ ((1048576 : Int) - n - m < 0) := by omega
  go_wp2_with fail
  refine (szSeals_le P m pcap (1048576 - n) w1 (by omega) (by omega)).mono ?_
  rintro e w1' ⟨rfl, rfl⟩
  have R1 := (HR.out.below E1 (Nat.le_refl _)).more E1.size
  have P1 := (HP.out.below E1 (Nat.le_refl _)).more E1.size
  obtain ⟨a0, a1, a2, a3, a4⟩ := D1.five
  obtain ⟨x0, x1, x2, x3, x4⟩ := X1.five
  go_wp2_with fail
  -- the model, on copies
  go_region_held3 (fun w' => w'.cell? ⟨w.heap.size, 0, none⟩ = some (.int .i64 s) ∧ w'.cell? ⟨w.heap.size, 1, none⟩ = some (.int .i64 l) ∧ w'.cell? ⟨w.heap.size, 2, none⟩ = some (.int .i64 c) ∧ w'.cell? ⟨w.heap.size, 3, none⟩ = some (.int .i64 sh) ∧ w'.cell? ⟨w.heap.size, 4, none⟩ = some (.slice A n cap) ∧ w'.cell? ⟨w.heap.size + 1, 0, none⟩ = some (.int .i64 ck) ∧ w'.cell? ⟨w.heap.size + 1, 1, none⟩ = some (.int .i64 ch) ∧ w'.cell? ⟨w.heap.size + 1, 2, none⟩ = some (.int .i64 ct) ∧ w'.cell? ⟨w.heap.size + 1, 3, none⟩ = some (.int .i64 cq) ∧ w'.cell? ⟨w.heap.size + 1, 4, none⟩ = some (.int .i64 cv))
    (first | (with_reducible exact K5) | (with_reducible exact K4) | (with_reducible exact K3) | (with_reducible exact K2) | go_keep)
    (first
      | (go_at_call 31; refine (toGroup_any s l c sh A n cap zs _ hm1 ?_).mono ?_; exact R1; rintro e w2 ⟨g2, hg2, rfl, hrow2, hb2⟩; have F2 := bel_drew' hb2; have K2 := ten (D1.later F2 D1.lt) (X1.later F2 X1.lt))
      | (go_at_call 32; refine (toClaim_any ck ch ct cq cv _).mono ?_; rintro e w3 ⟨rfl, hb3⟩; have F3 := bel_trans F2 hb3; have hrow3 := (hrow2.below hb3 (Nat.le_refl _)).more hb3.size; have P3 := P1.later F3; have K3 := ten (D1.later F3 D1.lt) (X1.later F3 X1.lt))
      | (go_at_call 26; refine (toSeals_any P m pcap ps _ hm2 P3).mono ?_; rintro e w4 ⟨g4, hg4, rfl, hpl, hh4, hb4⟩; have F4 := bel_trans F3 hb4; have hrow4 := (hrow3.below hb4 (Nat.le_refl _)).more hb4.size; have Q4 := hh4.pairs; rw [hpl] at Q4; have K4 := ten (D1.later F4 D1.lt) (X1.later F4 X1.lt); clear hh4)
      | (go_at_call 21; refine (specCertOk_is s l c sh _ n n zs ck ch ct cq cv _ m m ps _ HX.out hrow4 (by omega) Q4).mono ?_; rintro e w5 ⟨rfl, hb5⟩; have F5 := bel_trans F4 hb5; have K5 := ten (D1.later F5 D1.lt) (X1.later F5 X1.lt)))
  have D2 := D1.later F5 D1.lt
  have X2 := X1.later F5 X1.lt
  have E2 := bel_trans E1 F5
  clear D1 X1 E1 R1 P1 F2 F3 F4 F5 K2 K3 K4 K5 hb2 hb3 hb4 hb5 hrow2 hrow3 hrow4 P3 Q4 hpl hg4 hg2 a0 a1 a2 a3 a4 x0 x1 x2 x3 x4
  obtain ⟨a0, a1, a2, a3, a4⟩ := D2.five
  go_wp2_with fail
  -- the copies that are handed in
  refine (toGroup_any s l c sh A n cap zs w5 hm1 ((HR.out.below E2 (Nat.le_refl _)).more E2.size)).mono ?_
  rintro e w4 ⟨g4, hg4, rfl, hrow4, hb4⟩
  have D4 := D2.later hb4 D2.lt
  have X4 := X2.later hb4 X2.lt
  have E4 := bel_trans E2 hb4
  clear D2 X2 E2 hb4 a0 a1 a2 a3 a4
  have Y := Box.new w4 33 #[.int .i64 s, .int .i64 l, .int .i64 c, .int .i64 sh, .slice (some ⟨g4, 0, none⟩) n n]
  have hb5 := bel_alloc w4 (.cells #[.int .i64 s, .int .i64 l, .int .i64 c, .int .i64 sh, .slice (some ⟨g4, 0, none⟩) n n] 33)
  go_wp2_with fail
  have D5 := D4.later hb5 D4.lt
  have X5 := X4.later hb5 X4.lt
  have E5 := bel_trans E4 hb5
  have hrow5 := (hrow4.below hb5 (Nat.le_refl _)).more hb5.size
  have hg4l : w.heap.size + 1 < w4.heap.size := X4.lt
  generalize (w4.alloc _ : World) = w5' at Y hb5 D5 X5 E5 hrow5 ⊢
  clear D4 X4 E4 hrow4
  refine (toSeals_any P m pcap ps w5' hm2 ((HP.out.below E5 (Nat.le_refl _)).more E5.size)).mono ?_
  rintro e w6 ⟨g6, hg6, rfl, hpl, hh6, hb6⟩
  have Q6 := hh6.pairs
  rw [hpl] at Q6
  have D6 := D5.later hb6 D5.lt
  have X6 := X5.later hb6 X5.lt
  have Y6 := Y.later hb6 Y.lt
  have E6 := bel_trans E5 hb6
  have hrow6 := (hrow5.below hb6 (Nat.le_refl _)).more hb6.size
  replace hpl := Lib.hid hpl
  clear D5 X5 Y E5 hrow5 hb6 hb5 hh6
  obtain ⟨a0, a1, a2, a3, a4⟩ := Y6.five
  obtain ⟨x0, x1, x2, x3, x4⟩ := X6.five
  go_wp2_with fail
  -- the program
  go_region_held3 (fun w' => w'.cell? ⟨w4.heap.size, 0, none⟩ = some (.int .i64 s) ∧ w'.cell? ⟨w4.heap.size, 1, none⟩ = some (.int .i64 l) ∧ w'.cell? ⟨w4.heap.size, 2, none⟩ = some (.int .i64 c) ∧ w'.cell? ⟨w4.heap.size, 3, none⟩ = some (.int .i64 sh) ∧ w'.cell? ⟨w4.heap.size, 4, none⟩ = some (.slice (some ⟨g4, 0, none⟩) n n) ∧ w'.cell? ⟨w.heap.size + 1, 0, none⟩ = some (.int .i64 ck) ∧ w'.cell? ⟨w.heap.size + 1, 1, none⟩ = some (.int .i64 ch) ∧ w'.cell? ⟨w.heap.size + 1, 2, none⟩ = some (.int .i64 ct) ∧ w'.cell? ⟨w.heap.size + 1, 3, none⟩ = some (.int .i64 cq) ∧ w'.cell? ⟨w.heap.size + 1, 4, none⟩ = some (.int .i64 cv))
    (first | (with_reducible exact K5) | (with_reducible exact K3) | go_keep)
    (first
      | (go_at_call 32; refine (toClaim_any ck ch ct cq cv _).mono ?_; rintro e w3 ⟨rfl, hb3⟩; have F3 := bel_drew' hb3; have hrow7 := (hrow6.below F3 (Nat.le_refl _)).more F3.size; have Q7 := Q6.later F3; have K3 := ten (Y6.later F3 Y6.lt) (X6.later F3 X6.lt))
      | (go_at_call 20; refine (certOk_is s l c sh _ n n zs ck ch ct cq cv _ m m ps _ HX.out hrow7 (by omega) Q7).mono ?_; rintro e wc ⟨rfl, hb7⟩; have F5 := bel_trans F3 hb7; have K5 := ten (Y6.later F5 Y6.lt) (X6.later F5 X6.lt)))
  have D7 := D6.later F5 D6.lt
  have Y7 := Y6.later F5 Y6.lt
  have E7 := bel_trans E6 F5
  have hrow8 := (hrow6.below F5 (Nat.le_refl _)).more F5.size
  have Q8 := Q6.later F5
  have R7 := (HR.out.below E7 (Nat.le_refl _)).more E7.size
  clear D6 X6 Y6 E6 hrow6 F3 F5 K3 K5 hb3 hb7 hrow7 Q7 Q6 a0 a1 a2 a3 a4 x0 x1 x2 x3 x4
  have hff : ((cerB s l c sh zs ck ch ct cq cv ps) != (cerB s l c sh zs ck ch ct cq cv ps)) = false := by simp
  obtain ⟨a0, a1, a2, a3, a4⟩ := D7.five
  obtain ⟨y0, y1, y2, y3, y4⟩ := Y7.five
  have hz1 := D7.lt
  have hz2 := Y7.lt
  have hnew : w.heap.size ≠ w4.heap.size := by omega
  go_wp2_with fail
  go_region_held3 (fun w' => w'.cell? ⟨w.heap.size, 0, none⟩ = some (.int .i64 s) ∧ w'.cell? ⟨w.heap.size, 1, none⟩ = some (.int .i64 l) ∧ w'.cell? ⟨w.heap.size, 2, none⟩ = some (.int .i64 c) ∧ w'.cell? ⟨w.heap.size, 3, none⟩ = some (.int .i64 sh) ∧ w'.cell? ⟨w.heap.size, 4, none⟩ = some (.slice A n cap) ∧ w'.cell? ⟨w4.heap.size, 0, none⟩ = some (.int .i64 s) ∧ w'.cell? ⟨w4.heap.size, 1, none⟩ = some (.int .i64 l) ∧ w'.cell? ⟨w4.heap.size, 2, none⟩ = some (.int .i64 c) ∧ w'.cell? ⟨w4.heap.size, 3, none⟩ = some (.int .i64 sh) ∧ w'.cell? ⟨w4.heap.size, 4, none⟩ = some (.slice (some ⟨g4, 0, none⟩) n n)) (first | (with_reducible exact K9) | (with_reducible exact K8) | go_keep)
    (first
      | (go_at_call 31; refine (toGroup_any s l c sh A n cap zs _ hm1 ?_).mono ?_; exact R7; rintro e w8 ⟨g8', hg8', rfl, hrow9, hb8⟩; have F8 := bel_drew' hb8; have hrow78 := (hrow8.below F8 (Nat.le_refl _)).more F8.size; have D8 := D7.later F8 D7.lt; have Y8 := Y7.later F8 Y7.lt; have E8 := bel_trans E7 F8; have Q9 := Q8.later F8; have K8 := ten D8 Y8)
      | (go_at_call 33; refine (eqGroup_same s l c sh _ _ n n n zs _ hm1 hrow78 hrow9).mono ?_; rintro e w9 ⟨rfl, hb9⟩; have K9 := ten (D8.later hb9 D8.lt) (Y8.later hb9 Y8.lt)))
  have E9 := bel_trans E8 hb9
  have Q10 := Q9.later hb9
  clear E8 Q9 Q8 K8 K9 D8 Y8 hrow78 hrow9 hb8 hb9 F8 R7 a0 a1 a2 a3 a4 y0 y1 y2 y3 y4
  go_wp2_with fail
  refine (toSeals_any P m pcap ps w9 hm2 ((HP.out.below E9 (Nat.le_refl _)).more E9.size)).mono ?_
  rintro e w10 ⟨g10, hg10, rfl, hpl', hh10, hb10⟩
  have Q11 := hh10.pairs
  rw [hpl'] at Q11
  have Q12 := Q10.later hb10
  have E10 := bel_trans E9 hb10
  replace hpl' := Lib.hid hpl'
  clear hh10
  go_wp2_with fail
  refine (eqSeals_same _ _ m m m ps w10 hm2 Q12 Q11).mono ?_
  rintro e w11 ⟨rfl, hb11⟩
  go_wp2
  go_ret
  exact ⟨rfl, bel_trans E10 hb11⟩
theorem exactCertOk_big (s l c sh : Int) (A : Option Addr) (n cap : Nat) (ck ch ct cq cv : Int) (P : Option Addr) (m pcap : Nat) (w : World) (hx : n ≤ maxLen) (hy : m ≤ maxLen) (hm : 1048576 < n + m) :
    Calls Try.prog 8 #[.agg #[.int .i64 s, .int .i64 l, .int .i64 c, .int .i64 sh, .slice A n cap], .agg #[.int .i64 ck, .int .i64 ch, .int .i64 ct, .int .i64 cq, .int .i64 cv], .slice P m pcap] w fun e w' => e = .returned (.bool true) ∧ Below w.heap.size w w' := by
  rcases Nat.lt_or_ge 1048576 n with h | h
  · go_enter Try.func8, Try.ntmps8
    go_wp2_with (go_at_call 30; refine (szGroup_gt s l c sh A n cap _ h hx).mono ?_; rintro e w1 ⟨rfl, hb1⟩; have E1 := bel_trans (bel_trans (bel_alloc w (.cells #[.int .i64 s, .int .i64 l, .int .i64 c, .int .i64 sh, .slice A n cap] 51)) (bel_alloc _ (.cells #[.int .i64 ck, .int .i64 ch, .int .i64 ct, .int .i64 cq, .int .i64 cv] 54))) hb1)
    go_ret
    exact ⟨rfl, E1⟩
  · have HY := Lib.hid hy
    have hnn : ¬ ((1048576 : Int) - n < 0) := by omega
    go_enter Try.func8, Try.ntmps8
    go_wp2_with (first
      | (go_at_call 30; refine (szGroup_le s l c sh A n cap _ h).mono ?_; rintro e w1 ⟨rfl, hb1⟩; have E1 := bel_trans (bel_trans (bel_alloc w (.cells #[.int .i64 s, .int .i64 l, .int .i64 c, .int .i64 sh, .slice A n cap] 51)) (bel_alloc _ (.cells #[.int .i64 ck, .int .i64 ch, .int .i64 ct, .int .i64 cq, .int .i64 cv] 54))) hb1)
      | (go_at_call 25; refine (szSeals_gt P m pcap (1048576 - n) _ (by omega) (by omega) (by omega) HY.out).mono ?_; rintro e w2 ⟨rfl, rfl⟩))
    go_ret
    exact ⟨rfl, E1⟩

set_option maxRecDepth 100000 in
set_option maxHeartbeats 4000000 in
theorem exactProven_small (s l c sh : Int) (A : Option Addr) (n cap : Nat) (zs : List Int) (x ct cq v : Int) (P : Option Addr) (m pcap : Nat) (ps : List (Int × Int)) (w : World) (hm : n + m ≤ 1048576) (hr : Row w w.heap.size A n zs) (hp : Pairs w w.heap.size P m ps) :
    Calls Try.prog 9 #[.agg #[.int .i64 s, .int .i64 l, .int .i64 c, .int .i64 sh, .slice A n cap], .int .i64 x, .agg #[.int .i64 ct, .int .i64 cq], .int .i64 v, .slice P m pcap] w fun e w' => e = .returned (.bool true) ∧ Below w.heap.size w w' := by
  have hm1 : n ≤ 1048576 := by omega
  have hm2 : m ≤ 1048576 := by omega
  have HX : Hid (n ≤ maxLen) := by show n ≤ maxLen; unfold maxLen; omega
  have HR := Lib.hid hr
  have HP := Lib.hid hp
  clear hr hp
  have D := (Box.new w 51 #[.int .i64 s, .int .i64 l, .int .i64 c, .int .i64 sh, .slice A n cap]).alloc (.cells #[.int .i64 ct, .int .i64 cq] 52)
  have X := Box.new (w.alloc (.cells #[.int .i64 s, .int .i64 l, .int .i64 c, .int .i64 sh, .slice A n cap] 51)) 52 #[.int .i64 ct, .int .i64 cq]
  have hb0 := bel_trans (bel_alloc w (.cells #[.int .i64 s, .int .i64 l, .int .i64 c, .int .i64 sh, .slice A n cap] 51)) (bel_alloc _ (.cells #[.int .i64 ct, .int .i64 cq] 52))
  simp only [World.size_alloc] at X
  go_enter Try.func9, Try.ntmps9
  go_wp2_with fail
  generalize ((w.alloc _).alloc _ : World) = w0 at D X hb0 ⊢
  refine (szGroup_le s l c sh A n cap w0 hm1).mono ?_
  rintro e w1 ⟨rfl, hb1⟩
  have D1 := D.later hb1 D.lt
  have X1 := X.later hb1 X.lt
  have E1 := bel_trans hb0 hb1
  clear D X hb0 hb1
  have hnn : ¬ ((1048576 : Int) - n < 0) := by omega
  have hnm : ¬ ((1048576 : Int) - n - m < 0) := by omega
  go_wp2_with fail
  refine (szSeals_le P m pcap (1048576 - n) w1 (by omega) (by omega)).mono ?_
  rintro e w1' ⟨rfl, rfl⟩
  have R1 := (HR.out.below E1 (Nat.le_refl _)).more E1.size
  have P1 := (HP.out.below E1 (Nat.le_refl _)).more E1.size
  obtain ⟨a0, a1, a2, a3, a4⟩ := D1.five
  obtain ⟨x0, x1⟩ := X1.two
  go_wp2_with fail
  -- the model, on copies
  go_region_held3 (fun w' => w'.cell? ⟨w.heap.size, 0, none⟩ = some (.int .i64 s) ∧ w'.cell? ⟨w.heap.size, 1, none⟩ = some (.int .i64 l) ∧ w'.cell? ⟨w.heap.size, 2, none⟩ = some (.int .i64 c) ∧ w'.cell? ⟨w.heap.size, 3, none⟩ = some (.int .i64 sh) ∧ w'.cell? ⟨w.heap.size, 4, none⟩ = some (.slice A n cap) ∧ w'.cell? ⟨w.heap.size + 1, 0, none⟩ = some (.int .i64 ct) ∧ w'.cell? ⟨w.heap.size + 1, 1, none⟩ = some (.int .i64 cq))
    (first | (with_reducible exact K5) | (with_reducible exact K4) | (with_reducible exact K3) | (with_reducible exact K2) | go_keep)
    (first
      | (go_at_call 31; refine (toGroup_any s l c sh A n cap zs _ hm1 ?_).mono ?_; exact R1; rintro e w2 ⟨g2, hg2, rfl, hrow2, hb2⟩; have F2 := bel_drew' hb2; have K2 := seven (D1.later F2 D1.lt) (X1.later F2 X1.lt))
      | (go_at_call 35; refine (toStamp_any ct cq _).mono ?_; rintro e w3 ⟨rfl, hb3⟩; have F3 := bel_trans F2 hb3; have hrow3 := (hrow2.below hb3 (Nat.le_refl _)).more hb3.size; have P3 := P1.later F3; have K3 := seven (D1.later F3 D1.lt) (X1.later F3 X1.lt))
      | (go_at_call 26; refine (toSeals_any P m pcap ps _ hm2 P3).mono ?_; rintro e w4 ⟨g4, hg4, rfl, hpl, hh4, hb4⟩; have F4 := bel_trans F3 hb4; have hrow4 := (hrow3.below hb4 (Nat.le_refl _)).more hb4.size; have Q4 := hh4.pairs; rw [hpl] at Q4; have K4 := seven (D1.later F4 D1.lt) (X1.later F4 X1.lt); clear hh4)
      | (go_at_call 24; refine (specProven_is s l c sh _ n n zs x ct cq v _ m m ps _ HX.out hrow4 (by omega) Q4).mono ?_; rintro e w5 ⟨rfl, hb5⟩; have F5 := bel_trans F4 hb5; have K5 := seven (D1.later F5 D1.lt) (X1.later F5 X1.lt)))
  have D2 := D1.later F5 D1.lt
  have X2 := X1.later F5 X1.lt
  have E2 := bel_trans E1 F5
  clear D1 X1 E1 R1 P1 F2 F3 F4 F5 K2 K3 K4 K5 hb2 hb3 hb4 hb5 hrow2 hrow3 hrow4 P3 Q4 hpl hg4 hg2 a0 a1 a2 a3 a4 x0 x1
  obtain ⟨a0, a1, a2, a3, a4⟩ := D2.five
  go_wp2_with fail
  -- the copies that are handed in
  refine (toGroup_any s l c sh A n cap zs w5 hm1 ((HR.out.below E2 (Nat.le_refl _)).more E2.size)).mono ?_
  rintro e w4 ⟨g4, hg4, rfl, hrow4, hb4⟩
  have D4 := D2.later hb4 D2.lt
  have X4 := X2.later hb4 X2.lt
  have E4 := bel_trans E2 hb4
  clear D2 X2 E2 hb4 a0 a1 a2 a3 a4
  have Y := Box.new w4 33 #[.int .i64 s, .int .i64 l, .int .i64 c, .int .i64 sh, .slice (some ⟨g4, 0, none⟩) n n]
  have hb5 := bel_alloc w4 (.cells #[.int .i64 s, .int .i64 l, .int .i64 c, .int .i64 sh, .slice (some ⟨g4, 0, none⟩) n n] 33)
  go_wp2_with fail
  have D5 := D4.later hb5 D4.lt
  have X5 := X4.later hb5 X4.lt
  have E5 := bel_trans E4 hb5
  have hrow5 := (hrow4.below hb5 (Nat.le_refl _)).more hb5.size
  have hg4l : w.heap.size + 1 < w4.heap.size := X4.lt
  generalize (w4.alloc _ : World) = w5' at Y hb5 D5 X5 E5 hrow5 ⊢
  clear D4 X4 E4 hrow4
  refine (toSeals_any P m pcap ps w5' hm2 ((HP.out.below E5 (Nat.le_refl _)).more E5.size)).mono ?_
  rintro e w6 ⟨g6, hg6, rfl, hpl, hh6, hb6⟩
  have Q6 := hh6.pairs
  rw [hpl] at Q6
  have D6 := D5.later hb6 D5.lt
  have X6 := X5.later hb6 X5.lt
  have Y6 := Y.later hb6 Y.lt
  have E6 := bel_trans E5 hb6
  have hrow6 := (hrow5.below hb6 (Nat.le_refl _)).more hb6.size
  replace hpl := Lib.hid hpl
  clear D5 X5 Y E5 hrow5 hb6 hb5 hh6
  obtain ⟨a0, a1, a2, a3, a4⟩ := Y6.five
  obtain ⟨x0, x1⟩ := X6.two
  go_wp2_with fail
  -- the program
  go_region_held3 (fun w' => w'.cell? ⟨w4.heap.size, 0, none⟩ = some (.int .i64 s) ∧ w'.cell? ⟨w4.heap.size, 1, none⟩ = some (.int .i64 l) ∧ w'.cell? ⟨w4.heap.size, 2, none⟩ = some (.int .i64 c) ∧ w'.cell? ⟨w4.heap.size, 3, none⟩ = some (.int .i64 sh) ∧ w'.cell? ⟨w4.heap.size, 4, none⟩ = some (.slice (some ⟨g4, 0, none⟩) n n) ∧ w'.cell? ⟨w.heap.size + 1, 0, none⟩ = some (.int .i64 ct) ∧ w'.cell? ⟨w.heap.size + 1, 1, none⟩ = some (.int .i64 cq))
    (first | (with_reducible exact K5) | (with_reducible exact K3) | go_keep)
    (first
      | (go_at_call 35; refine (toStamp_any ct cq _).mono ?_; rintro e w3 ⟨rfl, hb3⟩; have F3 := bel_drew' hb3; have hrow7 := (hrow6.below F3 (Nat.le_refl _)).more F3.size; have Q7 := Q6.later F3; have K3 := seven (Y6.later F3 Y6.lt) (X6.later F3 X6.lt))
      | (go_at_call 23; refine (proven_is s l c sh _ n n zs x ct cq v _ m m ps _ HX.out hrow7 (by omega) Q7).mono ?_; rintro e wc ⟨rfl, hb7⟩; have F5 := bel_trans F3 hb7; have K5 := seven (Y6.later F5 Y6.lt) (X6.later F5 X6.lt)))
  have D7 := D6.later F5 D6.lt
  have Y7 := Y6.later F5 Y6.lt
  have E7 := bel_trans E6 F5
  have hrow8 := (hrow6.below F5 (Nat.le_refl _)).more F5.size
  have Q8 := Q6.later F5
  have R7 := (HR.out.below E7 (Nat.le_refl _)).more E7.size
  clear D6 X6 Y6 E6 hrow6 F3 F5 K3 K5 hb3 hb7 hrow7 Q7 Q6 a0 a1 a2 a3 a4 x0 x1
  have hff : ((proB s l c sh zs x ct cq v ps) != (proB s l c sh zs x ct cq v ps)) = false := by simp
  obtain ⟨a0, a1, a2, a3, a4⟩ := D7.five
  obtain ⟨y0, y1, y2, y3, y4⟩ := Y7.five
  have hz1 := D7.lt
  have hz2 := Y7.lt
  have hnew : w.heap.size ≠ w4.heap.size := by omega
  go_wp2_with fail
  go_region_held3 (fun w' => w'.cell? ⟨w.heap.size, 0, none⟩ = some (.int .i64 s) ∧ w'.cell? ⟨w.heap.size, 1, none⟩ = some (.int .i64 l) ∧ w'.cell? ⟨w.heap.size, 2, none⟩ = some (.int .i64 c) ∧ w'.cell? ⟨w.heap.size, 3, none⟩ = some (.int .i64 sh) ∧ w'.cell? ⟨w.heap.size, 4, none⟩ = some (.slice A n cap) ∧ w'.cell? ⟨w4.heap.size, 0, none⟩ = some (.int .i64 s) ∧ w'.cell? ⟨w4.heap.size, 1, none⟩ = some (.int .i64 l) ∧ w'.cell? ⟨w4.heap.size, 2, none⟩ = some (.int .i64 c) ∧ w'.cell? ⟨w4.heap.size, 3, none⟩ = some (.int .i64 sh) ∧ w'.cell? ⟨w4.heap.size, 4, none⟩ = some (.slice (some ⟨g4, 0, none⟩) n n)) (first | (with_reducible exact K9) | (with_reducible exact K8) | go_keep)
    (first
      | (go_at_call 31; refine (toGroup_any s l c sh A n cap zs _ hm1 ?_).mono ?_; exact R7; rintro e w8 ⟨g8', hg8', rfl, hrow9, hb8⟩; have F8 := bel_drew' hb8; have hrow78 := (hrow8.below F8 (Nat.le_refl _)).more F8.size; have D8 := D7.later F8 D7.lt; have Y8 := Y7.later F8 Y7.lt; have E8 := bel_trans E7 F8; have Q9 := Q8.later F8; have K8 := ten D8 Y8)
      | (go_at_call 33; refine (eqGroup_same s l c sh _ _ n n n zs _ hm1 hrow78 hrow9).mono ?_; rintro e w9 ⟨rfl, hb9⟩; have K9 := ten (D8.later hb9 D8.lt) (Y8.later hb9 Y8.lt)))
  have E9 := bel_trans E8 hb9
  have Q10 := Q9.later hb9
  clear E8 Q9 Q8 K8 K9 D8 Y8 hrow78 hrow9 hb8 hb9 F8 R7 a0 a1 a2 a3 a4 y0 y1 y2 y3 y4
  go_wp2_with fail
  refine (toSeals_any P m pcap ps w9 hm2 ((HP.out.below E9 (Nat.le_refl _)).more E9.size)).mono ?_
  rintro e w10 ⟨g10, hg10, rfl, hpl', hh10, hb10⟩
  have Q11 := hh10.pairs
  rw [hpl'] at Q11
  have Q12 := Q10.later hb10
  have E10 := bel_trans E9 hb10
  replace hpl' := Lib.hid hpl'
  clear hh10
  go_wp2_with fail
  refine (eqSeals_same _ _ m m m ps w10 hm2 Q12 Q11).mono ?_
  rintro e w11 ⟨rfl, hb11⟩
  go_wp2
  go_ret
  exact ⟨rfl, bel_trans E10 hb11⟩
theorem exactProven_big (s l c sh : Int) (A : Option Addr) (n cap : Nat) (x ct cq v : Int) (P : Option Addr) (m pcap : Nat) (w : World) (hx : n ≤ maxLen) (hy : m ≤ maxLen) (hm : 1048576 < n + m) :
    Calls Try.prog 9 #[.agg #[.int .i64 s, .int .i64 l, .int .i64 c, .int .i64 sh, .slice A n cap], .int .i64 x, .agg #[.int .i64 ct, .int .i64 cq], .int .i64 v, .slice P m pcap] w fun e w' => e = .returned (.bool true) ∧ Below w.heap.size w w' := by
  rcases Nat.lt_or_ge 1048576 n with h | h
  · go_enter Try.func9, Try.ntmps9
    go_wp2_with (go_at_call 30; refine (szGroup_gt s l c sh A n cap _ h hx).mono ?_; rintro e w1 ⟨rfl, hb1⟩; have E1 := bel_trans (bel_trans (bel_alloc w (.cells #[.int .i64 s, .int .i64 l, .int .i64 c, .int .i64 sh, .slice A n cap] 51)) (bel_alloc _ (.cells #[.int .i64 ct, .int .i64 cq] 52))) hb1)
    go_ret
    exact ⟨rfl, E1⟩
  · have HY := Lib.hid hy
    have hnn : ¬ ((1048576 : Int) - n < 0) := by omega
    go_enter Try.func9, Try.ntmps9
    go_wp2_with (first
      | (go_at_call 30; refine (szGroup_le s l c sh A n cap _ h).mono ?_; rintro e w1 ⟨rfl, hb1⟩; have E1 := bel_trans (bel_trans (bel_alloc w (.cells #[.int .i64 s, .int .i64 l, .int .i64 c, .int .i64 sh, .slice A n cap] 51)) (bel_alloc _ (.cells #[.int .i64 ct, .int .i64 cq] 52))) hb1)
      | (go_at_call 25; refine (szSeals_gt P m pcap (1048576 - n) _ (by omega) (by omega) (by omega) HY.out).mono ?_; rintro e w2 ⟨rfl, rfl⟩))
    go_ret
    exact ⟨rfl, E1⟩

end Go.Proofs.Ytdabmnhbmdaodaa
