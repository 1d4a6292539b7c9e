/- The exact law of PackNote answers true, whatever it is given: its walk (written by laws_pack.py). -/
import Derived.Test.YtgjbebfcbpfngaaLawsAnswer
import Derived.Test.YtgjbebfcbpfngaaCopiesMark
import Derived.Test.YtgjbebfcbpfngaaCopiesBytes
import Derived.Test.YtgjbebfcbpfngaaSpecWire2
namespace Go.Proofs.Ytgjbebfcbpfngaa
open Go.RowKit

/-- Keys of one's own, that can be written. -/
structure RHeld (w : World) (y n : Nat) (zs : List Int) : Prop where
  lt : y < w.heap.size
  fr : ∀ o, w.frozen? ⟨y, o, none⟩ = false
  row : Row w w.heap.size (some ⟨y, 0, none⟩) n zs
theorem RHeld.later {w w' : World} {y n : Nat} {zs : List Int} (h : RHeld w y n zs) (hb : Below w.heap.size w w') : RHeld w' y n zs :=
  ⟨Nat.lt_of_lt_of_le h.lt hb.size, fun o => (hb.frozen (p := ⟨y, o, none⟩) h.lt).trans (h.fr o), (h.row.below hb (Nat.le_refl _)).more hb.size⟩
theorem Held.kept' {w w' : World} {g : Nat} {d : List (Int × Int)} {r : Option Nat} (h : Held w g d) (hg : w.grownBy w' r) (hne : r ≠ some g) : Held w' g d := by
  have e := hg.block g h.lt (fun e => hne e.symm)
  exact ⟨Nat.lt_of_lt_of_le h.lt hg.size, fun o => (World.frozen?_of_block (w := w) (w' := w') (a := ⟨g, o, none⟩) e).trans (h.fr o), fun i hi => (World.cell?_of_block (w := w) (w' := w') (a := ⟨g, i * 2, none⟩) e).trans (h.at0 i hi), fun i hi => (World.cell?_of_block (w := w) (w' := w') (a := ⟨g, i * 2 + 1, none⟩) e).trans (h.at1 i hi)⟩

/-- What the exact laws of wires keep: the arguments' boxes, and the model's bytes. -/
structure P0 (w wr : World) (tg tn : TypeId) (gc nc : Array Value) (qg : Nat) (bs : List Int) : Prop where
  D : Box wr w.heap.size tg gc
  X : Box wr (w.heap.size + 1) tn nc
  E : Below w.heap.size w wr
  W : BHeld wr qg bs
  q1 : w.heap.size + 1 < qg
theorem P0.later {w wr w' : World} {tg tn : TypeId} {gc nc : Array Value} {qg : Nat} {bs : List Int} (h : P0 w wr tg tn gc nc qg bs) (hb : Below wr.heap.size wr w') : P0 w w' tg tn gc nc qg bs :=
  ⟨h.D.later hb h.D.lt, h.X.later hb h.X.lt, bel_trans h.E hb, h.W.later hb, h.q1⟩
theorem P0.kept {w wr w' : World} {tg tn : TypeId} {gc nc : Array Value} {qg r : Nat} {bs : List Int} (h : P0 w wr tg tn gc nc qg bs) (hg : wr.grownBy w' (some r)) (hr : w.heap.size + 1 < r) (hq : r ≠ qg) : P0 w w' tg tn gc nc qg bs :=
  ⟨h.D.kept hg (by intro e; injection e with e; omega), h.X.kept hg (by intro e; injection e with e; omega), bel_grown h.E hg (by omega), h.W.kept hg (by intro e; injection e with e; omega), h.q1⟩

set_option maxHeartbeats 4000000 in
theorem markNote_is {N : Array Value} {k1 k2 k3 k4 k5 t1 t2 v1 o1 o2 v2 : Int} {y1 p pc y2 q qc : Nat} {l1 l2 v3 : Int} (hN : N = #[.int .i64 k1, .int .i64 k2, .int .i64 k3, .int .i64 k4, .int .i64 k5, .int .i64 t1, .int .i64 t2, .int .i64 v1, .int .i64 o1, .int .i64 o2, .int .i64 v2, .slice (some ⟨y1, 0, none⟩) p pc, .slice (some ⟨y2, 0, none⟩) q qc, .int .i64 l1, .int .i64 l2, .int .i64 v3]) (k : Int) (ps qs : List (Int × Int)) (w : World) (hp : p ≤ 1048576) (hq : q ≤ 1048576) (hk0 : 0 ≤ k) (hk1 : k ≤ 10000000) (hlp : ps.length = p) (hlq : qs.length = q) (h1 : Held w y1 ps) (h2 : Held w y2 qs) (hne : y1 ≠ y2) :
    Calls Try.prog 14 #[.agg N, .int .i64 k] w fun e w' => e = .returned (.int .i64 (k + 2 * p + 2 * q)) ∧ ∃ w1, w.grownBy w1 (some y1) ∧ w1.grownBy w' (some y2) := by
  have B0 := Box.new w 40 N
  have E0 := bel_alloc w (.cells N 40)
  have cN := B0.cell
  have hy1 := h1.lt
  have hy2 := h2.lt
  obtain ⟨n0, n1, n2, n3, n4, n5, n6, n7, n8, n9, n10, n11, n12, n13, n14, n15⟩ := cellsN hN
  clear n0 n1 n2 n3 n4 n5 n6 n7 n8 n9 n10 n13 n14 n15
  have HN := Lib.hid hN
  have HLP := Lib.hid hlp
  have HLQ := Lib.hid hlq
  replace h1 := Lib.hid (h1.later E0)
  replace h2 := Lib.hid (h2.later E0)
  clear hN hlp hlq
  go_enter Try.func14, Try.ntmps14
  go_wp2_with fail
  generalize (w.alloc _ : World) = w0 at B0 E0 cN h1 h2 ⊢
  refine (mark_is y1 p pc k ps w0 (by omega) (by omega) (by omega) HLP.out h1.out).mono ?_
  rintro e w1 ⟨rfl, d1, _, _, _, hg1⟩
  have B1 := B0.kept hg1 (by intro e; injection e with e; omega)
  have cN := B1.cell
  replace h2 := Lib.hid (h2.out.kept' hg1 (by intro e; injection e with e; exact hne e))
  clear B0
  go_wp2_with fail
  refine (mark_is y2 q qc (k + 2 * p) qs w1 (by omega) (by omega) (by omega) HLQ.out h2.out).mono ?_
  rintro e w2 ⟨rfl, d2, _, _, _, hg2⟩
  have HG := Lib.hid (grown_trans (grown_bel E0 (some y1)) hg1)
  replace hg2 := Lib.hid hg2
  clear hg1 B1 cN
  go_wp2
  go_ret
  exact ⟨rfl, w1, HG.out, hg2.out⟩


set_option maxRecDepth 100000 in
set_option maxHeartbeats 16000000 in
theorem exactPack_small (s l c sh : Int) (A : Option Addr) (n cap : Nat) (zs : List Int) (k1 k2 k3 k4 k5 t1 t2 v1 o1 o2 v2 : Int) (P : Option Addr) (p pc : Nat) (Q : Option Addr) (q qc : Nat) (l1 l2 v3 : Int) (ps qs : List (Int × Int)) (w : World) (hm : n + p + q ≤ 1048576) (hr : Row w w.heap.size A n zs) (hp : Pairs w w.heap.size P p ps) (hq : Pairs w w.heap.size Q q qs) :
    Calls Try.prog 3 #[.agg #[.int .i64 s, .int .i64 l, .int .i64 c, .int .i64 sh, .slice A n cap], .agg #[.int .i64 k1, .int .i64 k2, .int .i64 k3, .int .i64 k4, .int .i64 k5, .int .i64 t1, .int .i64 t2, .int .i64 v1, .int .i64 o1, .int .i64 o2, .int .i64 v2, .slice P p pc, .slice Q q qc, .int .i64 l1, .int .i64 l2, .int .i64 v3]] w fun e w' => e = .returned (.bool true) ∧ Below w.heap.size w w' := by
  have hm1 : p ≤ 1048576 := by omega
  have hm2 : q ≤ 1048576 := by omega
  have hm0 : n ≤ 1048576 := by omega
  have HX : Hid (n ≤ maxLen ∧ p ≤ maxLen ∧ q ≤ maxLen) := by show n ≤ maxLen ∧ p ≤ maxLen ∧ q ≤ maxLen; unfold maxLen; omega
  have hlp := Lib.hid hp.1
  have hlq := Lib.hid hq.1
  have HR := Lib.hid hr
  have HP := Lib.hid hp
  have HQ := Lib.hid hq
  clear hp hq hr
  obtain ⟨bs, hbs⟩ : ∃ bs, bs = packL s l c sh zs k1 k2 k3 k4 k5 t1 t2 v1 o1 o2 v2 ps qs l1 l2 v3 := ⟨_, rfl⟩
  obtain ⟨bn, hbn⟩ : ∃ bn, bn = ntB s l c sh zs k1 k2 k3 k4 k5 t1 t2 v1 o1 o2 v2 ps qs l1 l2 v3 := ⟨_, rfl⟩
  have hbl : bs.length ≤ 500 := by rw [hbs]; exact packL_len ..
  replace hbs := Lib.hid hbs
  replace hbn := Lib.hid hbn
  have D0 := (Box.new w 24 #[.int .i64 s, .int .i64 l, .int .i64 c, .int .i64 sh, .slice A n cap]).alloc (.cells #[.int .i64 k1, .int .i64 k2, .int .i64 k3, .int .i64 k4, .int .i64 k5, .int .i64 t1, .int .i64 t2, .int .i64 v1, .int .i64 o1, .int .i64 o2, .int .i64 v2, .slice P p pc, .slice Q q qc, .int .i64 l1, .int .i64 l2, .int .i64 v3] 29)
  have X0 := Box.new (w.alloc (.cells #[.int .i64 s, .int .i64 l, .int .i64 c, .int .i64 sh, .slice A n cap] 24)) 29 #[.int .i64 k1, .int .i64 k2, .int .i64 k3, .int .i64 k4, .int .i64 k5, .int .i64 t1, .int .i64 t2, .int .i64 v1, .int .i64 o1, .int .i64 o2, .int .i64 v2, .slice P p pc, .slice Q q qc, .int .i64 l1, .int .i64 l2, .int .i64 v3]
  simp only [World.size_alloc] at X0
  have E0 := bel_trans (bel_alloc w (.cells #[.int .i64 s, .int .i64 l, .int .i64 c, .int .i64 sh, .slice A n cap] 24)) (bel_alloc _ (.cells #[.int .i64 k1, .int .i64 k2, .int .i64 k3, .int .i64 k4, .int .i64 k5, .int .i64 t1, .int .i64 t2, .int .i64 v1, .int .i64 o1, .int .i64 o2, .int .i64 v2, .slice P p pc, .slice Q q qc, .int .i64 l1, .int .i64 l2, .int .i64 v3] 29))
  go_enter Try.func3, Try.ntmps3
  go_wp2_with fail
  generalize ((w.alloc _).alloc _ : World) = w0 at D0 X0 E0 ⊢
  refine (szGroup_le s l c sh A n cap w0 hm0).mono ?_
  rintro e w1 ⟨rfl, hb⟩
  have D1 := D0.later hb D0.lt
  have X1 := X0.later hb X0.lt
  have E1 := bel_trans E0 hb
  clear D0 X0 E0 hb
  have hnn : ¬ ((1048576 : Int) - n < 0) := by omega
  have hnm : ¬ ((1048576 : Int) - n - p - q < 0) := by omega
  have HSZ := Lib.hid (sizeL (N := #[.int .i64 k1, .int .i64 k2, .int .i64 k3, .int .i64 k4, .int .i64 k5, .int .i64 t1, .int .i64 t2, .int .i64 v1, .int .i64 o1, .int .i64 o2, .int .i64 v2, .slice P p pc, .slice Q q qc, .int .i64 l1, .int .i64 l2, .int .i64 v3]) rfl)
  go_wp2_with (refine wpList_load_box 29 _ rfl (w.heap.size + 1) rfl 29 #[.int .i64 k1, .int .i64 k2, .int .i64 k3, .int .i64 k4, .int .i64 k5, .int .i64 t1, .int .i64 t2, .int .i64 v1, .int .i64 o1, .int .i64 o2, .int .i64 v2, .slice P p pc, .slice Q q qc, .int .i64 l1, .int .i64 l2, .int .i64 v3] X1 _ Try.underlying29 rfl HSZ.out (by simp [Region.wanted, yielded]) ?_)
  refine (szNote_le k1 k2 k3 k4 k5 t1 t2 v1 o1 o2 v2 P p pc Q q qc l1 l2 v3 (1048576 - n) w1 (by omega) (by omega)).mono ?_
  rintro e w2 ⟨rfl, hb⟩
  have D2 := D1.later hb D1.lt
  have X2 := X1.later hb X1.lt
  have E2 := bel_trans E1 hb
  clear D1 X1 E1 hb
  go_upto_region 8 with fail
  -- the model, on copies
  go_cut [6, 7] (fun v u wr => ∃ qg qcc, v = .slice (some ⟨qg, 0, none⟩) bs.length qcc ∧ u = .bool bn ∧ P0 w wr 24 29 #[.int .i64 s, .int .i64 l, .int .i64 c, .int .i64 sh, .slice A n cap] #[.int .i64 k1, .int .i64 k2, .int .i64 k3, .int .i64 k4, .int .i64 k5, .int .i64 t1, .int .i64 t2, .int .i64 v1, .int .i64 o1, .int .i64 o2, .int .i64 v2, .slice P p pc, .slice Q q qc, .int .i64 l1, .int .i64 l2, .int .i64 v3] qg bs)
  case first => as_aux_lemma =>
    have R2 := (HR.out.below E2 (Nat.le_refl _)).more E2.size
    have P2 := HP.out.later E2
    have Q2 := HQ.out.later E2
    obtain ⟨g0, g1, g2, g3, g4⟩ := D2.five
    obtain ⟨a0, a1, a2, a3, a4, a5, a6, a7, a8, a9, a10, a11, a12, a13, a14, a15⟩ := sixteen X2
    have hx2 := X2.lt
    go_wp2_with fail
    go_region_held3 (fun w' => w'.cell? ⟨w.heap.size, 0, none⟩ = some (.int .i64 s) ∧ w'.cell? ⟨w.heap.size, 1, none⟩ = some (.int .i64 l) ∧ w'.cell? ⟨w.heap.size, 2, none⟩ = some (.int .i64 c) ∧ w'.cell? ⟨w.heap.size, 3, none⟩ = some (.int .i64 sh) ∧ w'.cell? ⟨w.heap.size, 4, none⟩ = some (.slice A n cap) ∧ w'.cell? ⟨w.heap.size + 1, 0, none⟩ = some (.int .i64 k1) ∧ w'.cell? ⟨w.heap.size + 1, 1, none⟩ = some (.int .i64 k2) ∧ w'.cell? ⟨w.heap.size + 1, 2, none⟩ = some (.int .i64 k3) ∧ w'.cell? ⟨w.heap.size + 1, 3, none⟩ = some (.int .i64 k4) ∧ w'.cell? ⟨w.heap.size + 1, 4, none⟩ = some (.int .i64 k5) ∧ w'.cell? ⟨w.heap.size + 1, 5, none⟩ = some (.int .i64 t1) ∧ w'.cell? ⟨w.heap.size + 1, 6, none⟩ = some (.int .i64 t2) ∧ w'.cell? ⟨w.heap.size + 1, 7, none⟩ = some (.int .i64 v1) ∧ w'.cell? ⟨w.heap.size + 1, 8, none⟩ = some (.int .i64 o1) ∧ w'.cell? ⟨w.heap.size + 1, 9, none⟩ = some (.int .i64 o2) ∧ w'.cell? ⟨w.heap.size + 1, 10, none⟩ = some (.int .i64 v2) ∧ w'.cell? ⟨w.heap.size + 1, 11, none⟩ = some (.slice P p pc) ∧ w'.cell? ⟨w.heap.size + 1, 12, none⟩ = some (.slice Q q qc) ∧ w'.cell? ⟨w.heap.size + 1, 13, none⟩ = some (.int .i64 l1) ∧ w'.cell? ⟨w.heap.size + 1, 14, none⟩ = some (.int .i64 l2) ∧ w'.cell? ⟨w.heap.size + 1, 15, none⟩ = some (.int .i64 v3)) (first | (with_reducible exact K5) | (with_reducible exact K4) | (with_reducible exact K3) | go_keep)
      (first
        | (go_at_call 7; refine (toGroup_any s l c sh A n cap zs _ hm0 ?_).mono ?_; exact R2; rintro e w3 ⟨y3, hy3, rfl, hrow3, hb3⟩; have F3 := bel_drew' hb3; have P3 := P2.later F3; have Q3 := Q2.later F3; have K3 := groupNote (D2.later F3 D2.lt) (X2.later F3 X2.lt))
        | (go_at_call 8; refine (toNote_any k1 k2 k3 k4 k5 t1 t2 v1 o1 o2 v2 P p pc Q q qc l1 l2 v3 ps qs _ hm1 hm2 P3 Q3).mono ?_; rintro e w4 ⟨y1, y2, hy1, hy2, rfl, h1, h2, hb4⟩; have F4 := bel_trans F3 hb4; have hrow4 := (hrow3.below hb4 (Nat.le_refl _)).more hb4.size; have p4 := made_pairs_of h1 hlp.out; have q4 := made_pairs_of h2 hlq.out; have K4 := groupNote (D2.later F4 D2.lt) (X2.later F4 X2.lt))
        | (go_at_call 6; refine (specPackNote_is rfl s l c sh _ n n zs ps qs _ HX.out.1 HX.out.2.1 HX.out.2.2 hrow4 p4 q4).mono ?_; rintro e w5 ⟨qg, qcc, cs, rfl, hcs, hown, hb5⟩; have F5 := bel_trans F4 hb5; have K5 := groupNote (D2.later F5 D2.lt) (X2.later F5 X2.lt)))
    all_goals
      have hq1 : w.heap.size + 1 < qg := Nat.lt_of_lt_of_le hx2 (Nat.le_trans F4.size (hown.lt qg rfl).1)
      obtain rfl : cs = bs := by rw [hcs.out, hbs.out]
      rw [← hbn.out]
      have K : P0 w w5 24 29 #[.int .i64 s, .int .i64 l, .int .i64 c, .int .i64 sh, .slice A n cap] #[.int .i64 k1, .int .i64 k2, .int .i64 k3, .int .i64 k4, .int .i64 k5, .int .i64 t1, .int .i64 t2, .int .i64 v1, .int .i64 o1, .int .i64 o2, .int .i64 v2, .slice P p pc, .slice Q q qc, .int .i64 l1, .int .i64 l2, .int .i64 v3] qg cs := ⟨D2.later F5 D2.lt, X2.later F5 X2.lt, bel_trans E2 F5, hown.held, hq1⟩
      clear K3 K4 K5 F3 F4 F5 D2 X2 E2 R2 P2 Q2 P3 Q3 hrow3 hrow4 p4 q4 h1 h2 hb3 hb4 hb5 hown g0 g1 g2 g3 g4 a0 a1 a2 a3 a4 a5 a6 a7 a8 a9 a10 a11 a12 a13 a14 a15
      go_wp2_with fail
      go_meet
      exact ⟨qg, qcc, rfl, rfl, K⟩
  case rest =>
  obtain ⟨qg, qcc, rfl, rfl, K3⟩ := hcut
  obtain ⟨w3, rfl⟩ : ∃ x, x = wc := ⟨_, rfl⟩
  clear D2 X2 E2
  -- the copies that are handed in
  go_upto_region 9 with fail
  go_cut [8] (fun v wr => ∃ R y, v = .pointer (some ⟨R, 0, none⟩) ∧ w.heap.size + 1 < R ∧ w.heap.size + 1 < y ∧ y < R ∧ y ≠ qg ∧ Box wr R 35 #[.int .i64 s, .int .i64 l, .int .i64 c, .int .i64 sh, .slice (some ⟨y, 0, none⟩) n n] ∧ RHeld wr y n zs ∧ P0 w wr 24 29 #[.int .i64 s, .int .i64 l, .int .i64 c, .int .i64 sh, .slice A n cap] #[.int .i64 k1, .int .i64 k2, .int .i64 k3, .int .i64 k4, .int .i64 k5, .int .i64 t1, .int .i64 t2, .int .i64 v1, .int .i64 o1, .int .i64 o2, .int .i64 v2, .slice P p pc, .slice Q q qc, .int .i64 l1, .int .i64 l2, .int .i64 v3] qg bs)
  case first => as_aux_lemma =>
    obtain ⟨g0, g1, g2, g3, g4⟩ := K3.D.five
    go_wp2_with fail
    refine (toGroup_fr s l c sh A n cap zs w3 hm0 ((HR.out.below K3.E (Nat.le_refl _)).more K3.E.size)).mono ?_
    rintro e w4 ⟨y, hy, rfl, hrow, hfr, hyl, hb⟩
    have F := bel_alloc w4 (.cells #[.int .i64 s, .int .i64 l, .int .i64 c, .int .i64 sh, .slice (some ⟨y, 0, none⟩) n n] 35)
    have K4 := K3.later (bel_trans hb F)
    have H4 := RHeld.later ⟨hyl, hfr, hrow⟩ F
    have Y4 := Box.new w4 35 #[.int .i64 s, .int .i64 l, .int .i64 c, .int .i64 sh, .slice (some ⟨y, 0, none⟩) n n]
    have hx := K3.X.lt
    have hw := K3.W.lt
    have hbs := hb.size
    replace hfr := Lib.hid hfr
    clear g0 g1 g2 g3 g4 K3 hb hrow F
    go_wp2_with fail
    go_meet
    exact ⟨w4.heap.size, y, rfl, by omega, by omega, hyl, by omega, Y4, H4, K4⟩
  case rest =>
  obtain ⟨R, y, rfl, hR, hy0, hyR, hyq, Y4, H4, K4⟩ := hcut
  obtain ⟨w4, rfl⟩ : ∃ x, x = wc := ⟨_, rfl⟩
  clear K3
  go_upto_region 10 with fail
  go_cut [9] (fun v wr => ∃ S y1 y2, v = .pointer (some ⟨S, 0, none⟩) ∧ R < S ∧ R < y1 ∧ y1 < y2 ∧ y2 < S ∧ qg < y1 ∧ Box wr S 40 #[.int .i64 k1, .int .i64 k2, .int .i64 k3, .int .i64 k4, .int .i64 k5, .int .i64 t1, .int .i64 t2, .int .i64 v1, .int .i64 o1, .int .i64 o2, .int .i64 v2, .slice (some ⟨y1, 0, none⟩) p p, .slice (some ⟨y2, 0, none⟩) q q, .int .i64 l1, .int .i64 l2, .int .i64 v3] ∧ Held wr y1 ps ∧ Held wr y2 qs ∧ Box wr R 35 #[.int .i64 s, .int .i64 l, .int .i64 c, .int .i64 sh, .slice (some ⟨y, 0, none⟩) n n] ∧ RHeld wr y n zs ∧ P0 w wr 24 29 #[.int .i64 s, .int .i64 l, .int .i64 c, .int .i64 sh, .slice A n cap] #[.int .i64 k1, .int .i64 k2, .int .i64 k3, .int .i64 k4, .int .i64 k5, .int .i64 t1, .int .i64 t2, .int .i64 v1, .int .i64 o1, .int .i64 o2, .int .i64 v2, .slice P p pc, .slice Q q qc, .int .i64 l1, .int .i64 l2, .int .i64 v3] qg bs)
  case first => as_aux_lemma =>
    go_wp2_with (refine wpList_load_box 29 _ rfl (w.heap.size + 1) rfl 29 #[.int .i64 k1, .int .i64 k2, .int .i64 k3, .int .i64 k4, .int .i64 k5, .int .i64 t1, .int .i64 t2, .int .i64 v1, .int .i64 o1, .int .i64 o2, .int .i64 v2, .slice P p pc, .slice Q q qc, .int .i64 l1, .int .i64 l2, .int .i64 v3] K4.X _ Try.underlying29 rfl HSZ.out (by simp [Region.wanted, yielded]) ?_)
    refine (toNote_any k1 k2 k3 k4 k5 t1 t2 v1 o1 o2 v2 P p pc Q q qc l1 l2 v3 ps qs w4 hm1 hm2 (HP.out.later K4.E) (HQ.out.later K4.E)).mono ?_
    rintro e w5 ⟨y1, y2, hy1, hy2, rfl, h1, h2, hb⟩
    have F := bel_alloc w5 (.cells #[.int .i64 k1, .int .i64 k2, .int .i64 k3, .int .i64 k4, .int .i64 k5, .int .i64 t1, .int .i64 t2, .int .i64 v1, .int .i64 o1, .int .i64 o2, .int .i64 v2, .slice (some ⟨y1, 0, none⟩) p p, .slice (some ⟨y2, 0, none⟩) q q, .int .i64 l1, .int .i64 l2, .int .i64 v3] 40)
    have G := bel_trans hb F
    have K5 := K4.later G
    have H5 := H4.later G
    have Z5 := Y4.later G Y4.lt
    have hRl := Y4.lt
    have hql := K4.W.lt
    have hbs := hb.size
    have hy2l := h2.lt
    have S5 := Box.new w5 40 #[.int .i64 k1, .int .i64 k2, .int .i64 k3, .int .i64 k4, .int .i64 k5, .int .i64 t1, .int .i64 t2, .int .i64 v1, .int .i64 o1, .int .i64 o2, .int .i64 v2, .slice (some ⟨y1, 0, none⟩) p p, .slice (some ⟨y2, 0, none⟩) q q, .int .i64 l1, .int .i64 l2, .int .i64 v3]
    have h1' := h1.later F
    have h2' := h2.later F
    clear K4 hb F G h1 h2 Y4 H4
    go_wp2_with fail
    go_meet
    exact ⟨w5.heap.size, y1, y2, rfl, by omega, by omega, hy2, hy2l, by omega, S5, h1', h2', Z5, H5, K5⟩
  case rest =>
  obtain ⟨S, y1, y2, rfl, hRS, hRy1, hy12, hyS, hqy1, S5, h15, h25, Z5, H5, K5⟩ := hcut
  obtain ⟨w5, rfl⟩ : ∃ x, x = wc := ⟨_, rfl⟩
  clear K4 Y4 H4
  -- the program
  have HSI := Lib.hid (sizeN (N := #[.int .i64 k1, .int .i64 k2, .int .i64 k3, .int .i64 k4, .int .i64 k5, .int .i64 t1, .int .i64 t2, .int .i64 v1, .int .i64 o1, .int .i64 o2, .int .i64 v2, .slice (some ⟨y1, 0, none⟩) p p, .slice (some ⟨y2, 0, none⟩) q q, .int .i64 l1, .int .i64 l2, .int .i64 v3]) rfl)
  go_upto_region 11 with fail
  go_cut [10, 11] (fun v u wr => ∃ g gc, v = .slice (some ⟨g, 0, none⟩) bs.length gc ∧ u = .bool bn ∧ S < g ∧ qg < g ∧ BHeld wr g bs ∧ Below w5.heap.size w5 wr)
  case first => as_aux_lemma =>
    obtain ⟨g0, g1, g2, g3, g4⟩ := Z5.five
    go_wp2_with (refine wpList_load_box 40 _ rfl S rfl 40 #[.int .i64 k1, .int .i64 k2, .int .i64 k3, .int .i64 k4, .int .i64 k5, .int .i64 t1, .int .i64 t2, .int .i64 v1, .int .i64 o1, .int .i64 o2, .int .i64 v2, .slice (some ⟨y1, 0, none⟩) p p, .slice (some ⟨y2, 0, none⟩) q q, .int .i64 l1, .int .i64 l2, .int .i64 v3] S5 _ Try.underlying40 rfl HSI.out (by simp [Region.wanted, yielded]) ?_)
    refine (packNote_is (N := #[.int .i64 k1, .int .i64 k2, .int .i64 k3, .int .i64 k4, .int .i64 k5, .int .i64 t1, .int .i64 t2, .int .i64 v1, .int .i64 o1, .int .i64 o2, .int .i64 v2, .slice (some ⟨y1, 0, none⟩) p p, .slice (some ⟨y2, 0, none⟩) q q, .int .i64 l1, .int .i64 l2, .int .i64 v3]) rfl s l c sh _ n n zs ps qs w5 HX.out.1 HX.out.2.1 HX.out.2.2 H5.row (made_pairs_of h15 hlp.out) (made_pairs_of h25 hlq.out)).mono ?_
    rintro e w6 ⟨g, gc, cs, rfl, hcs, hown, hb⟩
    obtain rfl : cs = bs := by rw [hcs.out, hbs.out]
    rw [← hbn.out]
    have hg := (hown.lt g rfl).1
    have hSl := S5.lt
    have hql := K5.W.lt
    have hO := hown.held
    clear S5 Z5 h15 h25 H5 K5 g0 g1 g2 g3 g4 hown hcs
    go_wp2_with fail
    go_meet
    exact ⟨g, gc, rfl, rfl, by omega, by omega, hO, hb⟩
  case rest =>
  obtain ⟨g, gc, rfl, rfl, hSg, hqg, G6, hb⟩ := hcut
  obtain ⟨w6, rfl⟩ : ∃ x, x = wc := ⟨_, rfl⟩
  have K6 := K5.later hb
  have H6 := H5.later hb
  have h16 := h15.later hb
  have h26 := h25.later hb
  have Z6 := Z5.later hb Z5.lt
  have S6 := S5.later hb S5.lt
  clear S5 Z5 h15 h25 H5 K5 hb
  have hff : (bn != bn) = false := by simp
  -- it answers as its model
  go_wp2_with fail
  refine (eqBytes_same _ _ bs.length gc qcc bs w6 (by omega) (G6.row rfl) (K6.W.row rfl)).mono ?_
  rintro e w7 ⟨rfl, hb⟩
  replace K6 := K6.later hb
  replace H6 := H6.later hb
  replace h16 := h16.later hb
  replace h26 := h26.later hb
  replace Z6 := Z6.later hb Z6.lt
  replace S6 := S6.later hb S6.lt
  replace G6 := G6.later hb
  clear hb
  go_upto_region 14 with fail
  go_cut [58] (fun v wr => v = .bool false ∧ Below w7.heap.size w7 wr)
  case first => as_aux_lemma =>
    have R6 := (HR.out.below K6.E (Nat.le_refl _)).more K6.E.size
    have D6 := K6.D
    have r6 := H6.row
    obtain ⟨g0, g1, g2, g3, g4⟩ := D6.five
    obtain ⟨z0, z1, z2, z3, z4⟩ := Z6.five
    have hne : w.heap.size ≠ R := by omega
    clear K6 H6 h16 h26 S6 G6
    go_wp2_with fail
    go_region_held3 (fun w' => w'.cell? ⟨w.heap.size, 0, none⟩ = some (.int .i64 s) ∧ w'.cell? ⟨w.heap.size, 1, none⟩ = some (.int .i64 l) ∧ w'.cell? ⟨w.heap.size, 2, none⟩ = some (.int .i64 c) ∧ w'.cell? ⟨w.heap.size, 3, none⟩ = some (.int .i64 sh) ∧ w'.cell? ⟨w.heap.size, 4, none⟩ = some (.slice A n cap) ∧ w'.cell? ⟨R, 0, none⟩ = some (.int .i64 s) ∧ w'.cell? ⟨R, 1, none⟩ = some (.int .i64 l) ∧ w'.cell? ⟨R, 2, none⟩ = some (.int .i64 c) ∧ w'.cell? ⟨R, 3, none⟩ = some (.int .i64 sh) ∧ w'.cell? ⟨R, 4, none⟩ = some (.slice (some ⟨y, 0, none⟩) n n)) (first | (with_reducible exact K9) | (with_reducible exact K8) | go_keep)
      (first
        | (go_at_call 7; refine (toGroup_any s l c sh A n cap zs _ hm0 ?_).mono ?_; exact R6; rintro e w8 ⟨y8, hy8, rfl, hrow8, hb8⟩; have F8 := bel_drew' hb8; have r8 := (r6.below F8 (Nat.le_refl _)).more F8.size; have K8 := groupGroup (D6.later F8 D6.lt) (Z6.later F8 Z6.lt))
        | (go_at_call 11; refine (eqGroup_same s l c sh _ _ n n n zs _ hm0 r8 hrow8).mono ?_; rintro e w9 ⟨rfl, hb9⟩; have F9 := bel_trans F8 hb9; have K9 := groupGroup (D6.later F9 D6.lt) (Z6.later F9 Z6.lt)))
    all_goals
      have G := F9
      clear K8 K9 F8 F9 hb8 hb9 r8 hrow8 R6 g0 g1 g2 g3 g4 z0 z1 z2 z3 z4 D6 Z6 r6
      go_wp2_with fail
      go_meet
      exact ⟨rfl, G⟩
  case rest =>
  obtain ⟨rfl, hb⟩ := hcut
  obtain ⟨w8, rfl⟩ : ∃ x, x = wc := ⟨_, rfl⟩
  replace K6 := K6.later hb
  replace H6 := H6.later hb
  replace h16 := h16.later hb
  replace h26 := h26.later hb
  replace Z6 := Z6.later hb Z6.lt
  replace S6 := S6.later hb S6.lt
  replace G6 := G6.later hb
  clear hb
  go_upto_region 16 with fail
  go_cut [63] (fun v wr => v = .bool false ∧ Below w8.heap.size w8 wr)
  case first => as_aux_lemma =>
    have P7 := HP.out.later K6.E
    have Q7 := HQ.out.later K6.E
    have X7 := K6.X
    have p7 := made_pairs_of h16 hlp.out
    have q7 := made_pairs_of h26 hlq.out
    obtain ⟨a0, a1, a2, a3, a4, a5, a6, a7, a8, a9, a10, a11, a12, a13, a14, a15⟩ := sixteen X7
    obtain ⟨b0, b1, b2, b3, b4, b5, b6, b7, b8, b9, b10, b11, b12, b13, b14, b15⟩ := sixteen S6
    have hnew : w.heap.size + 1 ≠ S := by omega
    clear K6 H6 h16 h26 Z6 G6
    go_wp2_with fail
    go_region_held3 (fun w' => w'.cell? ⟨w.heap.size + 1, 0, none⟩ = some (.int .i64 k1) ∧ w'.cell? ⟨w.heap.size + 1, 1, none⟩ = some (.int .i64 k2) ∧ w'.cell? ⟨w.heap.size + 1, 2, none⟩ = some (.int .i64 k3) ∧ w'.cell? ⟨w.heap.size + 1, 3, none⟩ = some (.int .i64 k4) ∧ w'.cell? ⟨w.heap.size + 1, 4, none⟩ = some (.int .i64 k5) ∧ w'.cell? ⟨w.heap.size + 1, 5, none⟩ = some (.int .i64 t1) ∧ w'.cell? ⟨w.heap.size + 1, 6, none⟩ = some (.int .i64 t2) ∧ w'.cell? ⟨w.heap.size + 1, 7, none⟩ = some (.int .i64 v1) ∧ w'.cell? ⟨w.heap.size + 1, 8, none⟩ = some (.int .i64 o1) ∧ w'.cell? ⟨w.heap.size + 1, 9, none⟩ = some (.int .i64 o2) ∧ w'.cell? ⟨w.heap.size + 1, 10, none⟩ = some (.int .i64 v2) ∧ w'.cell? ⟨w.heap.size + 1, 11, none⟩ = some (.slice P p pc) ∧ w'.cell? ⟨w.heap.size + 1, 12, none⟩ = some (.slice Q q qc) ∧ w'.cell? ⟨w.heap.size + 1, 13, none⟩ = some (.int .i64 l1) ∧ w'.cell? ⟨w.heap.size + 1, 14, none⟩ = some (.int .i64 l2) ∧ w'.cell? ⟨w.heap.size + 1, 15, none⟩ = some (.int .i64 v3) ∧ w'.cell? ⟨S, 0, none⟩ = some (.int .i64 k1) ∧ w'.cell? ⟨S, 1, none⟩ = some (.int .i64 k2) ∧ w'.cell? ⟨S, 2, none⟩ = some (.int .i64 k3) ∧ w'.cell? ⟨S, 3, none⟩ = some (.int .i64 k4) ∧ w'.cell? ⟨S, 4, none⟩ = some (.int .i64 k5) ∧ w'.cell? ⟨S, 5, none⟩ = some (.int .i64 t1) ∧ w'.cell? ⟨S, 6, none⟩ = some (.int .i64 t2) ∧ w'.cell? ⟨S, 7, none⟩ = some (.int .i64 v1) ∧ w'.cell? ⟨S, 8, none⟩ = some (.int .i64 o1) ∧ w'.cell? ⟨S, 9, none⟩ = some (.int .i64 o2) ∧ w'.cell? ⟨S, 10, none⟩ = some (.int .i64 v2) ∧ w'.cell? ⟨S, 11, none⟩ = some (.slice (some ⟨y1, 0, none⟩) p p) ∧ w'.cell? ⟨S, 12, none⟩ = some (.slice (some ⟨y2, 0, none⟩) q q) ∧ w'.cell? ⟨S, 13, none⟩ = some (.int .i64 l1) ∧ w'.cell? ⟨S, 14, none⟩ = some (.int .i64 l2) ∧ w'.cell? ⟨S, 15, none⟩ = some (.int .i64 v3)) (first | (with_reducible exact K9) | (with_reducible exact K8) | go_keep)
      (first
        | (go_at_call 8; refine (toNote_any k1 k2 k3 k4 k5 t1 t2 v1 o1 o2 v2 P p pc Q q qc l1 l2 v3 ps qs _ hm1 hm2 ?_ ?_).mono ?_; exact P7; exact Q7; rintro e w8' ⟨g3, g4, hg3, hg4, rfl, h3, h4, hb8⟩; have F8 := bel_drew' hb8; have D8 := X7.later F8 X7.lt; have Y8 := S6.later F8 S6.lt; have p8 := p7.later F8; have q8 := q7.later F8; have r8 := made_pairs_of h3 hlp.out; have s8 := made_pairs_of h4 hlq.out; have K8 := noteNote D8 Y8; clear h3 h4)
        | (go_at_call 12; refine (eqNote_same k1 k2 k3 k4 k5 t1 t2 v1 o1 o2 v2 _ p p _ q q l1 l2 v3 _ p _ q ps qs _ hm1 hm2 p8 q8 r8 s8).mono ?_; rintro e w9 ⟨rfl, hb9⟩; have K9 := noteNote (D8.later hb9 D8.lt) (Y8.later hb9 Y8.lt)))
    all_goals
      have G := bel_trans F8 hb9
      clear K8 K9 D8 Y8 hb8 hb9 F8 p8 q8 r8 s8 a0 a1 a2 a3 a4 a5 a6 a7 a8 a9 a10 a11 a12 a13 a14 a15 b0 b1 b2 b3 b4 b5 b6 b7 b8 b9 b10 b11 b12 b13 b14 b15 P7 Q7 X7 S6 p7 q7
      go_wp2_with fail
      go_meet
      exact ⟨rfl, G⟩
  case rest =>
  obtain ⟨rfl, hb⟩ := hcut
  obtain ⟨w9, rfl⟩ : ∃ x, x = wc := ⟨_, rfl⟩
  replace K6 := K6.later hb
  replace H6 := H6.later hb
  replace h16 := h16.later hb
  replace h26 := h26.later hb
  replace Z6 := Z6.later hb Z6.lt
  replace S6 := S6.later hb S6.lt
  replace G6 := G6.later hb
  clear hb
  -- the copies are written
  go_upto_region 19 with fail
  go_cut [12] (fun v wr => v = .int .i64 (1 + n) ∧ w9.grownBy wr (some y))
  case first => as_aux_lemma =>
    obtain ⟨z0, z1, z2, z3, z4⟩ := Z6.five
    go_wp2_with fail
    refine (markGroup_is s l c sh y n n 1 zs w9 (by omega) (by omega) (by omega) H6.row H6.fr H6.lt).mono ?_
    rintro e w10 ⟨rfl, hg⟩
    clear K6 H6 h16 h26 Z6 S6 G6 z0 z1 z2 z3 z4
    go_wp2_with fail
    go_meet
    exact ⟨rfl, hg⟩
  case rest =>
  obtain ⟨rfl, hg⟩ := hcut
  obtain ⟨w10, rfl⟩ : ∃ x, x = wc := ⟨_, rfl⟩
  replace K6 := K6.kept hg hy0 hyq
  replace h16 := h16.kept' hg (by intro e; injection e with e; omega)
  replace h26 := h26.kept' hg (by intro e; injection e with e; omega)
  replace S6 := S6.kept hg (by intro e; injection e with e; omega)
  replace G6 := G6.kept hg (by intro e; injection e with e; omega)
  clear hg H6 Z6
  go_upto_region 20 with fail
  go_cut [12] (fun v wr => v = .int .i64 (1 + n + 2 * p + 2 * q) ∧ ∃ w1, w10.grownBy w1 (some y1) ∧ w1.grownBy wr (some y2))
  case first => as_aux_lemma =>
    go_wp2_with (refine wpList_load_box 40 _ rfl S rfl 40 #[.int .i64 k1, .int .i64 k2, .int .i64 k3, .int .i64 k4, .int .i64 k5, .int .i64 t1, .int .i64 t2, .int .i64 v1, .int .i64 o1, .int .i64 o2, .int .i64 v2, .slice (some ⟨y1, 0, none⟩) p p, .slice (some ⟨y2, 0, none⟩) q q, .int .i64 l1, .int .i64 l2, .int .i64 v3] S6 _ Try.underlying40 rfl HSI.out (by simp [Region.wanted, yielded]) ?_)
    refine (markNote_is (N := #[.int .i64 k1, .int .i64 k2, .int .i64 k3, .int .i64 k4, .int .i64 k5, .int .i64 t1, .int .i64 t2, .int .i64 v1, .int .i64 o1, .int .i64 o2, .int .i64 v2, .slice (some ⟨y1, 0, none⟩) p p, .slice (some ⟨y2, 0, none⟩) q q, .int .i64 l1, .int .i64 l2, .int .i64 v3]) rfl (1 + n) ps qs w10 hm1 hm2 (by omega) (by omega) hlp.out hlq.out h16 h26 (by omega)).mono ?_
    rintro e w11 ⟨rfl, wm, hg1, hg2⟩
    clear K6 h16 h26 S6 G6
    go_wp2_with fail
    go_meet
    exact ⟨rfl, wm, hg1, hg2⟩
  case rest =>
  obtain ⟨rfl, wm, hg1, hg2⟩ := hcut
  obtain ⟨w11, rfl⟩ : ∃ x, x = wc := ⟨_, rfl⟩
  replace K6 := (K6.kept hg1 (by omega) (by omega)).kept hg2 (by omega) (by omega)
  replace G6 := (G6.kept hg1 (by intro e; injection e with e; omega)).kept hg2 (by intro e; injection e with e; omega)
  clear hg1 hg2 h16 h26 S6
  have hk0 : ¬ ((1 : Int) + n + 2 * p + 2 * q < 0) := by omega
  go_wp2_with fail
  refine (eqBytes_same _ _ bs.length gc qcc bs w11 (by omega) (G6.row rfl) (K6.W.row rfl)).mono ?_
  rintro e w12 ⟨rfl, hb⟩
  replace K6 := K6.later hb
  replace G6 := G6.later hb
  clear hb
  -- the answer is written
  go_wp2_with fail
  refine (markB_is g bs.length gc 1 bs w12 (by omega) (by omega) (by omega) rfl G6).mono ?_
  rintro e w13 ⟨rfl, d, hdl, hdm, G7, hg⟩
  replace K6 := K6.kept hg (by omega) (by omega)
  replace hdl := Lib.hid hdl
  replace hdm := Lib.hid hdm
  clear hg G6
  go_wp2_with fail
  refine (heldB_is g bs.length gc 1 d w13 (by omega) (by omega) (by omega) hdl.out hdm.out G7).mono ?_
  rintro e w13' ⟨rfl, rfl⟩
  have hk1 : ¬ ((1 : Int) + bs.length < 0) := by omega
  -- and it stays
  go_upto_region 31 with fail
  go_cut [15, 16] (fun v u wr => ∃ g2 gc2, v = .slice (some ⟨g2, 0, none⟩) bs.length gc2 ∧ u = .bool bn ∧ BHeld wr g2 bs ∧ Below w13.heap.size w13 wr)
  case first => as_aux_lemma =>
    have D2 := K6.D
    have X2 := K6.X
    have R2 := (HR.out.below K6.E (Nat.le_refl _)).more K6.E.size
    have P2 := HP.out.later K6.E
    have Q2 := HQ.out.later K6.E
    obtain ⟨g0, g1, g2, g3, g4⟩ := D2.five
    obtain ⟨a0, a1, a2, a3, a4, a5, a6, a7, a8, a9, a10, a11, a12, a13, a14, a15⟩ := sixteen X2
    clear K6 G7
    go_wp2_with fail
    go_region_held3 (fun w' => w'.cell? ⟨w.heap.size, 0, none⟩ = some (.int .i64 s) ∧ w'.cell? ⟨w.heap.size, 1, none⟩ = some (.int .i64 l) ∧ w'.cell? ⟨w.heap.size, 2, none⟩ = some (.int .i64 c) ∧ w'.cell? ⟨w.heap.size, 3, none⟩ = some (.int .i64 sh) ∧ w'.cell? ⟨w.heap.size, 4, none⟩ = some (.slice A n cap) ∧ w'.cell? ⟨w.heap.size + 1, 0, none⟩ = some (.int .i64 k1) ∧ w'.cell? ⟨w.heap.size + 1, 1, none⟩ = some (.int .i64 k2) ∧ w'.cell? ⟨w.heap.size + 1, 2, none⟩ = some (.int .i64 k3) ∧ w'.cell? ⟨w.heap.size + 1, 3, none⟩ = some (.int .i64 k4) ∧ w'.cell? ⟨w.heap.size + 1, 4, none⟩ = some (.int .i64 k5) ∧ w'.cell? ⟨w.heap.size + 1, 5, none⟩ = some (.int .i64 t1) ∧ w'.cell? ⟨w.heap.size + 1, 6, none⟩ = some (.int .i64 t2) ∧ w'.cell? ⟨w.heap.size + 1, 7, none⟩ = some (.int .i64 v1) ∧ w'.cell? ⟨w.heap.size + 1, 8, none⟩ = some (.int .i64 o1) ∧ w'.cell? ⟨w.heap.size + 1, 9, none⟩ = some (.int .i64 o2) ∧ w'.cell? ⟨w.heap.size + 1, 10, none⟩ = some (.int .i64 v2) ∧ w'.cell? ⟨w.heap.size + 1, 11, none⟩ = some (.slice P p pc) ∧ w'.cell? ⟨w.heap.size + 1, 12, none⟩ = some (.slice Q q qc) ∧ w'.cell? ⟨w.heap.size + 1, 13, none⟩ = some (.int .i64 l1) ∧ w'.cell? ⟨w.heap.size + 1, 14, none⟩ = some (.int .i64 l2) ∧ w'.cell? ⟨w.heap.size + 1, 15, none⟩ = some (.int .i64 v3)) (first | (with_reducible exact K5) | (with_reducible exact K4) | (with_reducible exact K3) | go_keep)
      (first
        | (go_at_call 7; refine (toGroup_any s l c sh A n cap zs _ hm0 ?_).mono ?_; exact R2; rintro e w3 ⟨y3, hy3, rfl, hrow3, hb3⟩; have F3 := bel_drew' hb3; have P3 := P2.later F3; have Q3 := Q2.later F3; have K3 := groupNote (D2.later F3 D2.lt) (X2.later F3 X2.lt))
        | (go_at_call 8; refine (toNote_any k1 k2 k3 k4 k5 t1 t2 v1 o1 o2 v2 P p pc Q q qc l1 l2 v3 ps qs _ hm1 hm2 P3 Q3).mono ?_; rintro e w4 ⟨y1', y2', hy1, hy2, rfl, h1, h2, hb4⟩; have F4 := bel_trans F3 hb4; have hrow4 := (hrow3.below hb4 (Nat.le_refl _)).more hb4.size; have p4 := made_pairs_of h1 hlp.out; have q4 := made_pairs_of h2 hlq.out; have K4 := groupNote (D2.later F4 D2.lt) (X2.later F4 X2.lt))
        | (go_at_call 9; refine (packNote_is rfl s l c sh _ n n zs ps qs _ HX.out.1 HX.out.2.1 HX.out.2.2 hrow4 p4 q4).mono ?_; rintro e w5 ⟨gg, gc2, cs, rfl, hcs, hown, hb5⟩; have F5 := bel_trans F4 hb5; have K5 := groupNote (D2.later F5 D2.lt) (X2.later F5 X2.lt)))
    all_goals
      obtain rfl : cs = bs := by rw [hcs.out, hbs.out]
      rw [← hbn.out]
      have K := hown.held
      have F := F5
      clear K3 K4 K5 F3 F4 F5 D2 X2 R2 P2 Q2 P3 Q3 hrow3 hrow4 p4 q4 h1 h2 hb3 hb4 hb5 hown g0 g1 g2 g3 g4 a0 a1 a2 a3 a4 a5 a6 a7 a8 a9 a10 a11 a12 a13 a14 a15
      go_wp2_with fail
      go_meet
      exact ⟨gg, gc2, rfl, rfl, K, F⟩
  case rest =>
  obtain ⟨g2, gc2, rfl, rfl, J8, hb⟩ := hcut
  obtain ⟨w14, rfl⟩ : ∃ x, x = wc := ⟨_, rfl⟩
  replace K6 := K6.later hb
  replace G7 := G7.later hb
  clear hb
  go_wp2_with fail
  refine (eqBytes_same _ _ bs.length gc2 qcc bs w14 (by omega) (J8.row rfl) (K6.W.row rfl)).mono ?_
  rintro e w15 ⟨rfl, hb⟩
  replace K6 := K6.later hb
  replace G7 := G7.later hb
  clear hb J8
  go_wp2_with fail
  refine (heldB_is g bs.length gc 1 d w15 (by omega) (by omega) (by omega) hdl.out hdm.out G7).mono ?_
  rintro e w16 ⟨rfl, rfl⟩
  have E := K6.E
  clear K6 G7
  go_wp2
  go_ret
  exact ⟨rfl, E⟩
theorem exactPack_big (s l c sh : Int) (A : Option Addr) (n cap : Nat) (k1 k2 k3 k4 k5 t1 t2 v1 o1 o2 v2 : Int) (P : Option Addr) (p pc : Nat) (Q : Option Addr) (q qc : Nat) (l1 l2 v3 : Int) (w : World) (hn : n ≤ maxLen) (hp : p ≤ maxLen) (hq : q ≤ maxLen) (hm : 1048576 < n + p + q) :
    Calls Try.prog 3 #[.agg #[.int .i64 s, .int .i64 l, .int .i64 c, .int .i64 sh, .slice A n cap], .agg #[.int .i64 k1, .int .i64 k2, .int .i64 k3, .int .i64 k4, .int .i64 k5, .int .i64 t1, .int .i64 t2, .int .i64 v1, .int .i64 o1, .int .i64 o2, .int .i64 v2, .slice P p pc, .slice Q q qc, .int .i64 l1, .int .i64 l2, .int .i64 v3]] w fun e w' => e = .returned (.bool true) ∧ Below w.heap.size w w' := by
  have E0 := bel_trans (bel_alloc w (.cells #[.int .i64 s, .int .i64 l, .int .i64 c, .int .i64 sh, .slice A n cap] 24)) (bel_alloc _ (.cells #[.int .i64 k1, .int .i64 k2, .int .i64 k3, .int .i64 k4, .int .i64 k5, .int .i64 t1, .int .i64 t2, .int .i64 v1, .int .i64 o1, .int .i64 o2, .int .i64 v2, .slice P p pc, .slice Q q qc, .int .i64 l1, .int .i64 l2, .int .i64 v3] 29))
  have X0 := Box.new (w.alloc (.cells #[.int .i64 s, .int .i64 l, .int .i64 c, .int .i64 sh, .slice A n cap] 24)) 29 #[.int .i64 k1, .int .i64 k2, .int .i64 k3, .int .i64 k4, .int .i64 k5, .int .i64 t1, .int .i64 t2, .int .i64 v1, .int .i64 o1, .int .i64 o2, .int .i64 v2, .slice P p pc, .slice Q q qc, .int .i64 l1, .int .i64 l2, .int .i64 v3]
  simp only [World.size_alloc] at X0
  have HSZ := Lib.hid (sizeL (N := #[.int .i64 k1, .int .i64 k2, .int .i64 k3, .int .i64 k4, .int .i64 k5, .int .i64 t1, .int .i64 t2, .int .i64 v1, .int .i64 o1, .int .i64 o2, .int .i64 v2, .slice P p pc, .slice Q q qc, .int .i64 l1, .int .i64 l2, .int .i64 v3]) rfl)
  have HN := Lib.hid hn
  have HP := Lib.hid hp
  have HQ := Lib.hid hq
  clear hp hq hn
  rcases Nat.lt_or_ge 1048576 n with h | h
  · go_enter Try.func3, Try.ntmps3
    go_wp2_with fail
    refine (szGroup_gt s l c sh A n cap _ h HN.out).mono ?_
    rintro e w1 ⟨rfl, hb⟩
    have E := bel_trans E0 hb
    go_wp2
    go_ret
    exact ⟨rfl, E⟩
  · have hnn : ¬ ((1048576 : Int) - n < 0) := by omega
    go_enter Try.func3, Try.ntmps3
    go_wp2_with fail
    generalize ((w.alloc _).alloc _ : World) = w0 at X0 E0 ⊢
    refine (szGroup_le s l c sh A n cap w0 h).mono ?_
    rintro e w1 ⟨rfl, hb⟩
    have E1 := bel_trans E0 hb
    have X1 := X0.later hb X0.lt
    clear X0 E0 hb
    go_wp2_with (refine wpList_load_box 29 _ rfl (w.heap.size + 1) rfl 29 #[.int .i64 k1, .int .i64 k2, .int .i64 k3, .int .i64 k4, .int .i64 k5, .int .i64 t1, .int .i64 t2, .int .i64 v1, .int .i64 o1, .int .i64 o2, .int .i64 v2, .slice P p pc, .slice Q q qc, .int .i64 l1, .int .i64 l2, .int .i64 v3] X1 _ Try.underlying29 rfl HSZ.out (by simp [Region.wanted, yielded]) ?_)
    refine (szNote_gt k1 k2 k3 k4 k5 t1 t2 v1 o1 o2 v2 P p pc Q q qc l1 l2 v3 (1048576 - n) w1 (by omega) (by omega) (by omega) HP.out HQ.out).mono ?_
    rintro e w2 ⟨rfl, hb⟩
    have E := bel_trans E1 hb
    go_wp2
    go_ret
    exact ⟨rfl, E⟩

end Go.Proofs.Ytgjbebfcbpfngaa
