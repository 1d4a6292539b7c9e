/- The exact law of GoodSeals answers true, whatever it is given: its walk (written by laws_good.py). -/
import Derived.Test.YtdabmnhbmdaodaaCopiesClaim
import Derived.Test.YtdabmnhbmdaodaaCopiesMark
import Derived.Test.YtdabmnhbmdaodaaLawsJoin
import Derived.Test.YtdabmnhbmdaodaaCert3
namespace Go.Proofs.Ytdabmnhbmdaodaa
open Go.RowKit

theorem Row.kept {w w' : World} {g n : Nat} {zs : List Int} {r : Option Nat} (h : Row w w.heap.size (some ⟨g, 0, none⟩) n zs) (hg : w.grownBy w' r) (hne : r ≠ some g) : Row w' w'.heap.size (some ⟨g, 0, none⟩) n zs := by
  refine ⟨h.1, fun hn => ?_⟩
  obtain ⟨b, o, hA, hb, hc⟩ := h.2 hn
  cases hA
  exact ⟨_, _, rfl, Nat.lt_of_lt_of_le hb hg.size, fun i hi => (hg.cell_far ⟨g, 0 + i, none⟩ hb (fun e => hne e.symm)).trans (hc i hi)⟩

theorem markRes2_is {W wr : World} {B q : Nat} {u : Value} {J D : List (Int × Int)} (h : Ex W wr B q u J D) (hn : J.length ≤ 1048576) {a b : Nat} (ha : a < B) (hb : b < B) :
    Calls Try.prog 28 #[u, .int .i64 1] wr fun e w' => e = .returned (.int .i64 (1 + 2 * J.length)) ∧ ∃ D', Marked 1 D' ∧ Ex W w' B q u J D' ∧ (∀ t cs, Box wr a t cs → Box w' a t cs) ∧ (∀ t cs, Box wr b t cs → Box w' b t cs) := by
  rcases h.res with ⟨rfl, h2, h3⟩ | ⟨g, cap, h1, rfl, h3, h4⟩
  · refine (mark_nil 1 wr).mono ?_
    rintro e w' ⟨rfl, rfl⟩
    exact ⟨by rw [h2]; rfl, D, by rw [h3]; intro j hj; simp at hj, h, fun _ _ h => h, fun _ _ h => h⟩
  · refine (mark_is g J.length cap 1 D wr (by omega) (by omega) (by omega) h3 h4).mono ?_
    rintro e w' ⟨rfl, D', hd1, hd2, hd3, hg⟩
    exact ⟨rfl, D', hd2, ⟨bel_grown h.bel hg (Nat.le_trans h.wB h1), h.wB, Nat.le_trans h.sB hg.size, h.w0.keep (fun p hp => hg.cell_far p (Nat.lt_of_lt_of_le hp h.sB) (by intro e; injection e with e; omega)), .inr ⟨g, cap, h1, rfl, hd1, hd3⟩⟩,
      fun _ _ h => h.kept hg (by intro e; injection e with e; omega), fun _ _ h => h.kept hg (by intro e; injection e with e; omega)⟩

set_option maxRecDepth 100000 in
set_option maxHeartbeats 8000000 in
theorem exactGood_small (s l c sh : Int) (A : Option Addr) (n cap : Nat) (zs : List Int) (ck ch ct cq cv : Int) (P : Option Addr) (m pcap : Nat) (ps : List (Int × Int)) (w : World) (hm : n + m ≤ 1048576) (hr : Row w w.heap.size A n zs) (hp : Pairs w w.heap.size P m ps) :
    Calls Try.prog 6 #[.agg #[.int .i64 s, .int .i64 l, .int .i64 c, .int .i64 sh, .slice A n cap], .agg #[.int .i64 ck, .int .i64 ch, .int .i64 ct, .int .i64 cq, .int .i64 cv], .slice P m pcap] w fun e w' => e = .returned (.bool true) ∧ Below w.heap.size w w' := by
  have hm1 : n ≤ 1048576 := by omega
  have hm2 : m ≤ 1048576 := by omega
  obtain ⟨J, hJ⟩ : ∃ J, goodP (rB s l c sh zs ck ch ct cq cv) ps = J := ⟨_, rfl⟩
  have hJl : J.length ≤ 1048576 := by
    rw [← hJ]
    have := goodP_le (rB s l c sh zs ck ch ct cq cv) ps
    rw [hp.1] at this
    omega
  replace hJ := Lib.hid hJ
  have HX : Hid (n ≤ maxLen) := by show n ≤ maxLen; unfold maxLen; omega
  have HR := Lib.hid hr
  have HP := Lib.hid hp
  have HL := Lib.hid hp.1
  clear hr hp
  have D := (Box.new w 51 #[.int .i64 s, .int .i64 l, .int .i64 c, .int .i64 sh, .slice A n cap]).alloc (.cells #[.int .i64 ck, .int .i64 ch, .int .i64 ct, .int .i64 cq, .int .i64 cv] 54)
  have X := Box.new (w.alloc (.cells #[.int .i64 s, .int .i64 l, .int .i64 c, .int .i64 sh, .slice A n cap] 51)) 54 #[.int .i64 ck, .int .i64 ch, .int .i64 ct, .int .i64 cq, .int .i64 cv]
  have hb0 := bel_trans (bel_alloc w (.cells #[.int .i64 s, .int .i64 l, .int .i64 c, .int .i64 sh, .slice A n cap] 51)) (bel_alloc _ (.cells #[.int .i64 ck, .int .i64 ch, .int .i64 ct, .int .i64 cq, .int .i64 cv] 54))
  simp only [World.size_alloc] at X
  go_enter Try.func6, Try.ntmps6
  go_wp2_with fail
  generalize ((w.alloc _).alloc _ : World) = w0 at D X hb0 ⊢
  refine (szGroup_le s l c sh A n cap w0 hm1).mono ?_
  rintro e w1 ⟨rfl, hb1⟩
  have D1 := D.later hb1 D.lt
  have X1 := X.later hb1 X.lt
  have E1 := bel_trans hb0 hb1
  clear D X hb0 hb1
  have hnn : ¬ ((1048576 : Int) - n < 0) := by omega
  have hnm : ¬ ((1048576 : Int) - n - m < 0) := by omega
  go_wp2_with fail
  refine (szSeals_le P m pcap (1048576 - n) w1 (by omega) (by omega)).mono ?_
  rintro e w1' ⟨rfl, rfl⟩
  have R1 := (HR.out.below E1 (Nat.le_refl _)).more E1.size
  have P1 := (HP.out.below E1 (Nat.le_refl _)).more E1.size
  obtain ⟨a0, a1, a2, a3, a4⟩ := D1.five
  obtain ⟨x0, x1, x2, x3, x4⟩ := X1.five
  go_wp2_with fail
  -- the model, on copies
  go_region_held3 (fun w' => w'.cell? ⟨w.heap.size, 0, none⟩ = some (.int .i64 s) ∧ w'.cell? ⟨w.heap.size, 1, none⟩ = some (.int .i64 l) ∧ w'.cell? ⟨w.heap.size, 2, none⟩ = some (.int .i64 c) ∧ w'.cell? ⟨w.heap.size, 3, none⟩ = some (.int .i64 sh) ∧ w'.cell? ⟨w.heap.size, 4, none⟩ = some (.slice A n cap) ∧ w'.cell? ⟨w.heap.size + 1, 0, none⟩ = some (.int .i64 ck) ∧ w'.cell? ⟨w.heap.size + 1, 1, none⟩ = some (.int .i64 ch) ∧ w'.cell? ⟨w.heap.size + 1, 2, none⟩ = some (.int .i64 ct) ∧ w'.cell? ⟨w.heap.size + 1, 3, none⟩ = some (.int .i64 cq) ∧ w'.cell? ⟨w.heap.size + 1, 4, none⟩ = some (.int .i64 cv))
    (first | (with_reducible exact K5) | (with_reducible exact K4) | (with_reducible exact K3) | (with_reducible exact K2) | go_keep)
    (first
      | (go_at_call 31; refine (toGroup_any s l c sh A n cap zs _ hm1 ?_).mono ?_; exact R1; rintro e w2 ⟨g2, hg2, rfl, hrow2, hb2⟩; have F2 := bel_drew' hb2; have K2 := ten (D1.later F2 D1.lt) (X1.later F2 X1.lt))
      | (go_at_call 32; refine (toClaim_any ck ch ct cq cv _).mono ?_; rintro e w3 ⟨rfl, hb3⟩; have F3 := bel_trans F2 hb3; have hrow3 := (hrow2.below hb3 (Nat.le_refl _)).more hb3.size; have P3 := P1.later F3; have K3 := ten (D1.later F3 D1.lt) (X1.later F3 X1.lt))
      | (go_at_call 26; refine (toSeals_any P m pcap ps _ hm2 P3).mono ?_; rintro e w4 ⟨g4, hg4, rfl, hpl, hh4, hb4⟩; have F4 := bel_trans F3 hb4; have hrow4 := (hrow3.below hb4 (Nat.le_refl _)).more hb4.size; have Q4 := hh4.prs HL.out; have K4 := ten (D1.later F4 D1.lt) (X1.later F4 X1.lt); clear hh4 hpl)
      | (go_at_call 19; refine (specGood_is s l c sh _ n n zs ck ch ct cq cv _ m m ps _ HX.out hrow4 (by omega) Q4).mono ?_; rintro e w5 ⟨q, cw, rfl, hw0, hb5⟩; have F5 := bel_trans F4 hb5; have K5 := ten (D1.later F5 D1.lt) (X1.later F5 X1.lt)))
  rw [hJ.out] at hw0 ⊢
  have D2 := D1.later F5 D1.lt
  have X2 := X1.later F5 X1.lt
  have E2 := bel_trans E1 F5
  have hX2l : w.heap.size + 1 < w5.heap.size := X2.lt
  clear D1 X1 E1 R1 P1 F2 F3 F4 F5 K2 K3 K4 K5 hb2 hb3 hb4 hb5 hrow2 hrow3 hrow4 P3 Q4 hg4 hg2 a0 a1 a2 a3 a4 x0 x1 x2 x3 x4
  obtain ⟨a0, a1, a2, a3, a4⟩ := D2.five
  go_wp2_with fail
  -- the copies that are handed in
  refine (toGroup_fr s l c sh A n cap zs w5 hm1 ((HR.out.below E2 (Nat.le_refl _)).more E2.size)).mono ?_
  rintro e w4 ⟨g4, hg4, rfl, hrow4, hfz4, hg4l, hb4⟩
  have D4 := D2.later hb4 D2.lt
  have X4 := X2.later hb4 X2.lt
  have E4 := bel_trans E2 hb4
  clear D2 X2 a0 a1 a2 a3 a4
  have Y := Box.new w4 33 #[.int .i64 s, .int .i64 l, .int .i64 c, .int .i64 sh, .slice (some ⟨g4, 0, none⟩) n n]
  have hb5 := bel_alloc w4 (.cells #[.int .i64 s, .int .i64 l, .int .i64 c, .int .i64 sh, .slice (some ⟨g4, 0, none⟩) n n] 33)
  have hB5 : w5.heap.size ≤ w4.heap.size := hb4.size
  replace hfz4 := Lib.hid hfz4
  go_wp2_with fail
  have D5 := D4.later hb5 D4.lt
  have X5 := X4.later hb5 X4.lt
  have E5 := bel_trans E4 hb5
  have hrow5 := (hrow4.below hb5 (Nat.le_refl _)).more hb5.size
  have hXl : w.heap.size + 1 < w4.heap.size := X4.lt
  have hb45 := bel_trans hb4 hb5
  have hfz5 := Lib.hid (show ∀ i, (w4.alloc (.cells #[.int .i64 s, .int .i64 l, .int .i64 c, .int .i64 sh, .slice (some ⟨g4, 0, none⟩) n n] 33)).frozen? ⟨g4, i, none⟩ = false from fun i => (hb5.frozen (p := ⟨g4, i, none⟩) hg4l).trans (hfz4.out i))
  clear D4 X4 E4 hrow4 hfz4
  generalize (w4.alloc _ : World) = w5' at Y hb5 D5 X5 E5 hrow5 hb45 hfz5 ⊢
  obtain ⟨S, hS⟩ : ∃ S, S = w4.heap.size := ⟨_, rfl⟩
  rw [← hS] at Y hg4l hXl hB5 hb5 ⊢
  clear hb4 hS
  refine (toSeals_any P m pcap ps w5' hm2 ((HP.out.below E5 (Nat.le_refl _)).more E5.size)).mono ?_
  rintro e w6 ⟨g6, hg6, rfl, _, X26, hb6⟩
  have D6 := D5.later hb6 D5.lt
  have X6 := X5.later hb6 X5.lt
  have Y6 := Y.later hb6 Y.lt
  have E6 := bel_trans E5 hb6
  have hrow6 := (hrow5.below hb6 (Nat.le_refl _)).more hb6.size
  have hb46 := bel_trans hb45 hb6
  have hSl : S < w5'.heap.size := Y.lt
  have hw6 : w5'.heap.size ≤ w6.heap.size := hb6.size
  have hfz6 := Lib.hid (show ∀ i, w6.frozen? ⟨g4, i, none⟩ = false from fun i => (hb6.frozen (p := ⟨g4, i, none⟩) (show g4 < _ by omega)).trans (hfz5.out i))
  clear D5 X5 Y E5 hrow5 hb6 hb5 hfz5 hb45
  have Q6 := X26.prs HL.out
  have hg6l := X26.lt
  obtain ⟨a0, a1, a2, a3, a4⟩ := Y6.five
  obtain ⟨x0, x1, x2, x3, x4⟩ := X6.five
  go_wp2_with fail
  -- the program
  go_region_held3 (fun w' => w'.cell? ⟨S, 0, none⟩ = some (.int .i64 s) ∧ w'.cell? ⟨S, 1, none⟩ = some (.int .i64 l) ∧ w'.cell? ⟨S, 2, none⟩ = some (.int .i64 c) ∧ w'.cell? ⟨S, 3, none⟩ = some (.int .i64 sh) ∧ w'.cell? ⟨S, 4, none⟩ = some (.slice (some ⟨g4, 0, none⟩) n n) ∧ w'.cell? ⟨w.heap.size + 1, 0, none⟩ = some (.int .i64 ck) ∧ w'.cell? ⟨w.heap.size + 1, 1, none⟩ = some (.int .i64 ch) ∧ w'.cell? ⟨w.heap.size + 1, 2, none⟩ = some (.int .i64 ct) ∧ w'.cell? ⟨w.heap.size + 1, 3, none⟩ = some (.int .i64 cq) ∧ w'.cell? ⟨w.heap.size + 1, 4, none⟩ = some (.int .i64 cv))
    (first | (with_reducible exact K5) | (with_reducible exact K3) | go_keep)
    (first
      | (go_at_call 32; refine (toClaim_any ck ch ct cq cv _).mono ?_; rintro e w3 ⟨rfl, hb3⟩; have F3 := bel_drew' hb3; have hrow7 := (hrow6.below F3 (Nat.le_refl _)).more F3.size; have Q7 := Q6.later F3; have K3 := ten (Y6.later F3 Y6.lt) (X6.later F3 X6.lt))
      | (go_at_call 17; refine (good_is s l c sh _ n n zs ck ch ct cq cv _ m m ps _ HX.out hrow7 (by omega) Q7).mono ?_; rintro e wc ⟨u, rfl, hown⟩; have hb7 := hown.2; have F5 := bel_trans F3 hb7; have K5 := ten (Y6.later F5 Y6.lt) (X6.later F5 X6.lt)))
  rw [hJ.out] at hown
  have D7 := D6.later F5 D6.lt
  have X7 := X6.later F5 X6.lt
  have Y7 := Y6.later F5 Y6.lt
  have hrow8 := (hrow6.below F5 (Nat.le_refl _)).more F5.size
  have X27 := X26.later F5
  have K7 : Ex w wc w5.heap.size q u J J := Ex.of E2 hw0 (bel_trans hb46 F3) hown
  have hap0 := Lib.hid (Ex.apart hown K7 (x := g4) (by have := F3.size; omega))
  have hap1 := Lib.hid (Ex.apart hown K7 (x := g6) (by have := F3.size; omega))
  have hfz7 := Lib.hid (show ∀ i, wc.frozen? ⟨g4, i, none⟩ = false from fun i => (F5.frozen (p := ⟨g4, i, none⟩) (show g4 < _ by omega)).trans (hfz6.out i))
  have h46 : g4 ≠ g6 := by omega
  have hwc := F5.size
  clear D6 X6 Y6 E6 hrow6 F3 F5 K3 K5 hb3 hb7 hrow7 Q7 Q6 hown hw0 E2 hb46 hfz6 X26 a0 a1 a2 a3 a4 x0 x1 x2 x3 x4
  go_wp2_with fail
  refine (eqRes_is cw K7 hJl).mono ?_
  rintro e w7 ⟨rfl, hb7⟩
  have K8 := K7.later hb7
  have D8 := D7.later hb7 D7.lt
  have X8 := X7.later hb7 X7.lt
  have Y8 := Y7.later hb7 Y7.lt
  have hrow9 := (hrow8.below hb7 (Nat.le_refl _)).more hb7.size
  have X28 := X27.later hb7
  have hfz8 := Lib.hid (show ∀ i, w7.frozen? ⟨g4, i, none⟩ = false from fun i => (hb7.frozen (p := ⟨g4, i, none⟩) (show g4 < _ by omega)).trans (hfz7.out i))
  have R8 := (HR.out.below K8.bel (Nat.le_refl _)).more K8.bel.size
  have hw7 := hb7.size
  clear K7 D7 X7 Y7 hrow8 X27 hfz7 hb7
  obtain ⟨a0, a1, a2, a3, a4⟩ := D8.five
  obtain ⟨y0, y1, y2, y3, y4⟩ := Y8.five
  have hz1 := D8.lt
  have hz2 := Y8.lt
  have hnew : w.heap.size ≠ S := by omega
  go_wp2_with fail
  go_region_held3 (fun w' => w'.cell? ⟨w.heap.size, 0, none⟩ = some (.int .i64 s) ∧ w'.cell? ⟨w.heap.size, 1, none⟩ = some (.int .i64 l) ∧ w'.cell? ⟨w.heap.size, 2, none⟩ = some (.int .i64 c) ∧ w'.cell? ⟨w.heap.size, 3, none⟩ = some (.int .i64 sh) ∧ w'.cell? ⟨w.heap.size, 4, none⟩ = some (.slice A n cap) ∧ w'.cell? ⟨S, 0, none⟩ = some (.int .i64 s) ∧ w'.cell? ⟨S, 1, none⟩ = some (.int .i64 l) ∧ w'.cell? ⟨S, 2, none⟩ = some (.int .i64 c) ∧ w'.cell? ⟨S, 3, none⟩ = some (.int .i64 sh) ∧ w'.cell? ⟨S, 4, none⟩ = some (.slice (some ⟨g4, 0, none⟩) n n)) (first | (with_reducible exact K9) | (with_reducible exact KA) | go_keep)
    (first
      | (go_at_call 31; refine (toGroup_any s l c sh A n cap zs _ hm1 ?_).mono ?_; exact R8; rintro e w8 ⟨g8', hg8', rfl, hrow10, hb8⟩; have F8 := bel_drew' hb8; have hrow78 := (hrow9.below F8 (Nat.le_refl _)).more F8.size; have KA := ten (D8.later F8 D8.lt) (Y8.later F8 Y8.lt))
      | (go_at_call 33; refine (eqGroup_same s l c sh _ _ n n n zs _ hm1 hrow78 hrow10).mono ?_; rintro e w9 ⟨rfl, hb9⟩; have F9 := bel_trans F8 hb9; have K9 := ten (D8.later F9 D8.lt) (Y8.later F9 Y8.lt)))
  have KB := K8.later F9
  have D9 := D8.later F9 D8.lt
  have X9 := X8.later F9 X8.lt
  have Y9 := Y8.later F9 Y8.lt
  have hrow11 := (hrow9.below F9 (Nat.le_refl _)).more F9.size
  have X29 := X28.later F9
  have hfz9 := Lib.hid (show ∀ i, w9.frozen? ⟨g4, i, none⟩ = false from fun i => (F9.frozen (p := ⟨g4, i, none⟩) (show g4 < _ by omega)).trans (hfz8.out i))
  have hw9 := F9.size
  clear K8 D8 X8 Y8 hrow9 X28 hfz8 F8 F9 K9 KA hb8 hb9 hrow78 hrow10 R8 a0 a1 a2 a3 a4 y0 y1 y2 y3 y4
  go_wp2_with fail
  refine (toSeals_any P m pcap ps w9 hm2 (HP.out.later KB.bel)).mono ?_
  rintro e w10 ⟨g10, _, rfl, _, hh10, hb10⟩
  have X210 := X29.later hb10
  go_wp2_with fail
  refine (eqSeals_same _ _ m m m ps w10 hm2 (X210.prs HL.out) (hh10.prs HL.out)).mono ?_
  rintro e w11 ⟨rfl, hb11⟩
  have F11 := bel_trans hb10 hb11
  have KC := KB.later F11
  have D11 := D9.later F11 D9.lt
  have X11 := X9.later F11 X9.lt
  have Y11 := Y9.later F11 Y9.lt
  have hrow12 := (hrow11.below F11 (Nat.le_refl _)).more F11.size
  have X211 := X29.later F11
  have hfz11 := Lib.hid (show ∀ i, w11.frozen? ⟨g4, i, none⟩ = false from fun i => (F11.frozen (p := ⟨g4, i, none⟩) (show g4 < _ by omega)).trans (hfz9.out i))
  have hw11 := F11.size
  clear KB D9 X9 Y9 hrow11 X29 X210 hh10 hfz9 F11 hb10 hb11
  obtain ⟨y0, y1, y2, y3, y4⟩ := Y11.five
  -- the copies are written
  go_wp2_with fail
  refine (markGroup_is s l c sh g4 n n 1 zs w11 (by omega) (by omega) (by omega) hrow12 hfz11.out (by omega)).mono ?_
  rintro e w12 ⟨rfl, hg12⟩
  have KD := KC.other hg12 hg4 hap0.out
  have D12 := D11.kept hg12 (by intro e; injection e with e; omega)
  have X12 := X11.kept hg12 (by intro e; injection e with e; omega)
  have X212 := X211.kept hg12 (by intro e; injection e with e; exact h46 e)
  clear KC D11 X11 Y11 hrow12 X211 hfz11 hg12 y0 y1 y2 y3 y4
  go_wp2_with fail
  refine (mark_is g6 m m (1 + n) ps w12 (by omega) (by omega) (by omega) HL.out X212).mono ?_
  rintro e w13 ⟨rfl, d13, _, _, _, hg13⟩
  have KE := KD.other hg13 (by omega) hap1.out
  have D13 := D12.kept hg13 (by intro e; injection e with e; omega)
  have X13 := X12.kept hg13 (by intro e; injection e with e; omega)
  clear KD D12 X12 X212 hg13
  have hk0 : ¬ ((1 : Int) + n + 2 * m < 0) := by omega
  go_wp2_with fail
  refine (eqRes_is cw KE hJl).mono ?_
  rintro e w14 ⟨rfl, hb14⟩
  have KF := KE.later hb14
  have D14 := D13.later hb14 D13.lt
  have X14 := X13.later hb14 X13.lt
  clear KE D13 X13 hb14
  -- the answer is written
  go_wp2_with fail
  have HD14 := Lib.hid D14
  have HX14 := Lib.hid X14
  refine (markRes2_is KF hJl (a := w.heap.size) (b := w.heap.size + 1) (by omega) (by omega)).mono ?_
  rintro e w15 ⟨rfl, D, hD, KG, hkeep⟩
  have D15 := hkeep.1 _ _ D14
  have X15 := hkeep.2 _ _ X14
  clear KF D14 X14 hkeep HD14 HX14
  replace hD := Lib.hid hD
  go_wp2_with fail
  refine (heldRes_is KG hD.out hJl).mono ?_
  rintro e w15' ⟨rfl, rfl⟩
  have hk1 : ¬ ((1 : Int) + 2 * J.length < 0) := by omega
  obtain ⟨a0, a1, a2, a3, a4⟩ := D15.five
  obtain ⟨x0, x1, x2, x3, x4⟩ := X15.five
  have R15 := (HR.out.below KG.bel (Nat.le_refl _)).more KG.bel.size
  have P15 := (HP.out.below KG.bel (Nat.le_refl _)).more KG.bel.size
  -- and it stays
  go_wp2_with fail
  go_region_held3 (fun w' => w'.cell? ⟨w.heap.size, 0, none⟩ = some (.int .i64 s) ∧ w'.cell? ⟨w.heap.size, 1, none⟩ = some (.int .i64 l) ∧ w'.cell? ⟨w.heap.size, 2, none⟩ = some (.int .i64 c) ∧ w'.cell? ⟨w.heap.size, 3, none⟩ = some (.int .i64 sh) ∧ w'.cell? ⟨w.heap.size, 4, none⟩ = some (.slice A n cap) ∧ w'.cell? ⟨w.heap.size + 1, 0, none⟩ = some (.int .i64 ck) ∧ w'.cell? ⟨w.heap.size + 1, 1, none⟩ = some (.int .i64 ch) ∧ w'.cell? ⟨w.heap.size + 1, 2, none⟩ = some (.int .i64 ct) ∧ w'.cell? ⟨w.heap.size + 1, 3, none⟩ = some (.int .i64 cq) ∧ w'.cell? ⟨w.heap.size + 1, 4, none⟩ = some (.int .i64 cv))
    (first | (with_reducible exact K5) | (with_reducible exact K4) | (with_reducible exact K3) | (with_reducible exact K2) | go_keep)
    (first
      | (go_at_call 31; refine (toGroup_any s l c sh A n cap zs _ hm1 ?_).mono ?_; exact R15; rintro e w2 ⟨g2, hg2, rfl, hrow2, hb2⟩; have F2 := bel_drew' hb2; have K2 := ten (D15.later F2 D15.lt) (X15.later F2 X15.lt))
      | (go_at_call 32; refine (toClaim_any ck ch ct cq cv _).mono ?_; rintro e w3 ⟨rfl, hb3⟩; have F3 := bel_trans F2 hb3; have hrow3 := (hrow2.below hb3 (Nat.le_refl _)).more hb3.size; have P3 := P15.later F3; have K3 := ten (D15.later F3 D15.lt) (X15.later F3 X15.lt))
      | (go_at_call 26; refine (toSeals_any P m pcap ps _ hm2 P3).mono ?_; rintro e wd ⟨gd, hgd, rfl, hpl, hhd, hb4⟩; have F4 := bel_trans F3 hb4; have hrow4 := (hrow3.below hb4 (Nat.le_refl _)).more hb4.size; have Q4 := hhd.prs HL.out; have K4 := ten (D15.later F4 D15.lt) (X15.later F4 X15.lt); clear hhd hpl)
      | (go_at_call 17; refine (good_is s l c sh _ n n zs ck ch ct cq cv _ m m ps _ HX.out hrow4 (by omega) Q4).mono ?_; rintro e we ⟨u2, rfl, hown2⟩; have F5 := bel_trans F4 hown2.2; have K5 := ten (D15.later F5 D15.lt) (X15.later F5 X15.lt)))
  rw [hJ.out] at hown2
  have KH := KG.later F5
  have KI := KG.later F4
  have LL : Ex w we wd.heap.size q u2 J J := Ex.of KI.bel (KI.w0.more KI.sB) (Below.refl _ _) hown2
  clear KG KI F2 F3 F4 F5 K2 K3 K4 K5 hb2 hb3 hb4 hrow2 hrow3 hrow4 P3 Q4 hown2 R15 P15 D15 X15 a0 a1 a2 a3 a4 x0 x1 x2 x3 x4
  go_wp2_with fail
  refine (eqRes_is cw LL hJl).mono ?_
  rintro e w19 ⟨rfl, hb19⟩
  have KJ := KH.later hb19
  clear KH LL hb19
  go_wp2_with fail
  refine (heldRes_is KJ hD.out hJl).mono ?_
  rintro e w20 ⟨rfl, rfl⟩
  go_wp2
  go_ret
  exact ⟨rfl, KJ.bel⟩
theorem exactGood_big (s l c sh : Int) (A : Option Addr) (n cap : Nat) (ck ch ct cq cv : Int) (P : Option Addr) (m pcap : Nat) (w : World) (hx : n ≤ maxLen) (hy : m ≤ maxLen) (hm : 1048576 < n + m) :
    Calls Try.prog 6 #[.agg #[.int .i64 s, .int .i64 l, .int .i64 c, .int .i64 sh, .slice A n cap], .agg #[.int .i64 ck, .int .i64 ch, .int .i64 ct, .int .i64 cq, .int .i64 cv], .slice P m pcap] w fun e w' => e = .returned (.bool true) ∧ Below w.heap.size w w' := by
  rcases Nat.lt_or_ge 1048576 n with h | h
  · go_enter Try.func6, Try.ntmps6
    go_wp2_with (go_at_call 30; refine (szGroup_gt s l c sh A n cap _ h hx).mono ?_; rintro e w1 ⟨rfl, hb1⟩; have E1 := bel_trans (bel_trans (bel_alloc w (.cells #[.int .i64 s, .int .i64 l, .int .i64 c, .int .i64 sh, .slice A n cap] 51)) (bel_alloc _ (.cells #[.int .i64 ck, .int .i64 ch, .int .i64 ct, .int .i64 cq, .int .i64 cv] 54))) hb1)
    go_ret
    exact ⟨rfl, E1⟩
  · have HY := Lib.hid hy
    have hnn : ¬ ((1048576 : Int) - n < 0) := by omega
    go_enter Try.func6, Try.ntmps6
    go_wp2_with (first
      | (go_at_call 30; refine (szGroup_le s l c sh A n cap _ h).mono ?_; rintro e w1 ⟨rfl, hb1⟩; have E1 := bel_trans (bel_trans (bel_alloc w (.cells #[.int .i64 s, .int .i64 l, .int .i64 c, .int .i64 sh, .slice A n cap] 51)) (bel_alloc _ (.cells #[.int .i64 ck, .int .i64 ch, .int .i64 ct, .int .i64 cq, .int .i64 cv] 54))) hb1)
      | (go_at_call 25; refine (szSeals_gt P m pcap (1048576 - n) _ (by omega) (by omega) (by omega) HY.out).mono ?_; rintro e w2 ⟨rfl, rfl⟩))
    go_ret
    exact ⟨rfl, E1⟩

end Go.Proofs.Ytdabmnhbmdaodaa
