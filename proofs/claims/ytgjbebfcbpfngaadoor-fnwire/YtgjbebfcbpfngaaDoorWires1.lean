/- The law FnWire answers true, whatever bytes it is given: its walk; conditions: the bytes can be read, the errors lie as the program lays them. -/
import Derived.Test.YtgjbebfcbpfngaaDoorDrawPack
import Derived.Test.YtgjbebfcbpfngaaDoorLikes
import Derived.Test.YtgjbebfcbpfngaaDoorSpecWire2
import Derived.Test.YtgjbebfcbpfngaaDoorLawsRead
import Derived.Test.YtgjbebfcbpfngaaDoorBase
namespace Go.Proofs.YtgjbebfcbpfngaaDoor
open Go.RowKit

theorem wire_big (A : Option Addr) (n cap : Nat) (w : World) (hm : n ≤ maxLen) (hb : 4096 < n) :
    Calls Tryd.prog 3 #[.slice A n cap] w fun e w' => e = .returned (.bool true) ∧ Below w.heap.size w w' := by
  have hd : decide (4096 < n) = true := by simpa using hb
  go_enter Tryd.func3, Tryd.ntmps3
  go_wp2_with (go_at_call 6; refine (big_any A n cap _ hm).mono ?_; rintro e w' ⟨rfl, rfl⟩)
  go_ret
  exact ⟨rfl, Below.refl _ _⟩
theorem BOwn.cap {w : World} {base g cap : Nat} {bs : List Int} (h : BOwn w base g cap bs) : bs.length ≤ cap := by
  rcases h.2 with ⟨e, _⟩ | ⟨g', cap', cur, e, _, _, h4, _⟩
  · cases e
  · cases e; exact h4

theorem likeRead_is {N1 : Array Value} {k1 k2 k3 k4 k5 t1 t2 v1 o1 o2 v2 : Int} {l1 l2 v3 : Int} {U V : Option Addr} {p q : Nat} (h1 : N1 = (noteA (numN k1 k2 k3 k4 k5 t1 t2 v1 o1 o2 v2 l1 l2 v3) (.slice U p p) (.slice V q q))) (P : Option Addr) (pc : Nat) (Q : Option Addr) (qc : Nat) (ps qs : List (Int × Int)) (w : World) (hp : p ≤ 1048576) (hq : q ≤ 1048576) (a1 : Pairs w w.heap.size U p ps) (a2 : Pairs w w.heap.size V q qs) (a3 : Pairs w w.heap.size P p ps) (a4 : Pairs w w.heap.size Q q qs) :
    Calls Tryd.prog 12 #[.agg N1, .agg #[.int .i64 k1, .int .i64 k2, .int .i64 k3, .int .i64 k4, .int .i64 k5, .int .i64 t1, .int .i64 t2, .int .i64 v1, .int .i64 o1, .int .i64 o2, .int .i64 v2, .slice P p pc, .slice Q q qc, .int .i64 l1, .int .i64 l2, .int .i64 v3]] w fun e w' => e = .returned (.bool true) ∧ Below w.heap.size w w' := by
  subst h1
  exact likeNote_is k1 k2 k3 k4 k5 t1 t2 v1 o1 o2 v2 U p p V q q l1 l2 v3 P pc Q qc ps qs w hp hq a1 a2 a3 a4

/-- What was cut off is not read. -/
theorem cutRead_is (aE aM aS aL : Addr) (B : Nat) (s l c sh : Int) (A : Option Addr) (n cap : Nat) (zs : List Int) (g L gc : Nat) (bs : List Int) (w W : World) (hE : Errs w B aE aM aS aL) (hBw : B ≤ w.heap.size) (hm : n ≤ maxLen) (hr : Row w w.heap.size A n zs) (G : BHeld w g bs) (hB : Bys bs) (hL : bs.length = L) (hl : L ≤ 500) (hgc : L ≤ gc) (hno : okR s l c sh zs (bs.take (L - 1)) = false) (hW : Below w.heap.size w W) :
    Calls Tryd.prog 11 #[.agg #[.int .i64 s, .int .i64 l, .int .i64 c, .int .i64 sh, .slice A n cap], .slice (some ⟨g, 0, none⟩) (L - 1) gc] W fun e w' => e = .returned (.tuple #[.agg ZN, .bool false]) ∧ Below W.heap.size W w' := by
  have G' := G.later hW
  have hrow : BRow W W.heap.size (some ⟨g, 0, none⟩) (L - 1) (bs.take (L - 1)) := ⟨by simp; omega, fun h => ⟨g, 0, rfl, G'.lt, fun i hi => by
    rw [Nat.zero_add, G'.at0 i (by omega)]
    congr 2
    simp [nth, hi]⟩⟩
  refine (readNote_is aE aM aS aL B s l c sh A n cap zs _ (L - 1) gc (bs.take (L - 1)) W (hE.later hW hBw) (Nat.le_trans hBw hW.size) hm ((hr.below hW (Nat.le_refl _)).more hW.size) hrow (fun z hz => hB z (List.mem_of_mem_take hz)) (by unfold maxLen; omega) (by omega)).mono ?_
  rintro e w' ⟨hb, ⟨hok, _⟩ | ⟨_, he⟩⟩
  · rw [hno] at hok; cases hok
  · exact ⟨he, hb⟩

/-- A note of zeros, stored where one lies. -/
theorem store_zn {W : World} {b : Nat} (h : Box W b 31 ZN) : (storeCells ⟨b, 0, none⟩ ZN.toList).run Tryd.prog W = .ok () (W.setRow b ZN) := by
  have := run_storeCells_from (P := Tryd.prog) b 31 ZN.toList 0 ZN W h (by simp) (fun v hv => by
    have h1 := zn_one
    rw [Array.all_eq_true_iff_forall_mem] at h1
    exact h1 v (by simpa using hv))
  simpa using this
theorem store_zn_new (w : World) : (storeCells ⟨w.heap.size, 0, none⟩ ZN.toList).run Tryd.prog (w.alloc (.cells #[.int .i64 0, .int .i64 0, .int .i64 0, .int .i64 0, .int .i64 0, .int .i64 0, .int .i64 0, .int .i64 0, .int .i64 0, .int .i64 0, .int .i64 0, .slice none 0 0, .slice none 0 0, .int .i64 0, .int .i64 0, .int .i64 0] 31)) = .ok () ((w.alloc (.cells ZN 31)).setRow w.heap.size ZN) := store_zn (Box.new w _ ZN)

/-- What the walk of FnWire keeps. -/
structure WK (w wr : World) (D X : Nat) (gc nc : Array Value) (A : Option Addr) (m : Nat) (zs : List Int) (P : Option Addr) (p : Nat) (ps : List (Int × Int)) (Q : Option Addr) (q : Nat) (qs : List (Int × Int)) : Prop where
  D : Box wr D 26 gc
  X : Box wr X 31 nc
  E : Below w.heap.size w wr
  R : Row wr wr.heap.size A m zs
  P : Pairs wr wr.heap.size P p ps
  Q : Pairs wr wr.heap.size Q q qs
theorem WK.later {w wr w' : World} {D X : Nat} {gc nc : Array Value} {A : Option Addr} {m : Nat} {zs : List Int} {P : Option Addr} {p : Nat} {ps : List (Int × Int)} {Q : Option Addr} {q : Nat} {qs : List (Int × Int)} (h : WK w wr D X gc nc A m zs P p ps Q q qs) (hb : Below wr.heap.size wr w') : WK w w' D X gc nc A m zs P p ps Q q qs :=
  ⟨h.D.later hb h.D.lt, h.X.later hb h.X.lt, bel_trans h.E hb, (h.R.below hb (Nat.le_refl _)).more hb.size, h.P.later hb, h.Q.later hb⟩

set_option maxRecDepth 100000 in
set_option maxHeartbeats 8000000 in
theorem wire_small (aE aM aS aL : Addr) (A : Option Addr) (n cap : Nat) (w : World) (hE : Errs w w.heap.size aE aM aS aL) (hn : n ≤ 4096) (hB : Bytes w w.heap.size A n) :
    Calls Tryd.prog 3 #[.slice A n cap] w fun e w' => e = .returned (.bool true) ∧ Below w.heap.size w w' := by
  have hd : decide (4096 < n) = false := by simpa using hn
  have HM : Hid (n ≤ maxLen) := by show n ≤ maxLen; unfold maxLen; omega
  have HB := Lib.hid hB
  have HE := Lib.hid hE
  clear hB hE
  go_enter Tryd.func3, Tryd.ntmps3
  go_wp2_with fail
  refine (big_any A n cap _ HM.out).mono ?_
  rintro e w' ⟨rfl, rfl⟩
  go_wp2_with fail
  refine (drawPack_any A n cap w hn HB.out).mono ?_
  rintro e w1 ⟨s, l, c, sh, q', o, m, cap', zs, N, cv, mv, rfl, hrow, hm, hsh, hcer, hmor, hb1⟩
  obtain ⟨k1, k2, k3, k4, k5, t1, t2, v1, o1, o2, v2, l1, l2, v3, rfl⟩ := hsh
  obtain ⟨P, p, pc, ps, rfl, hp21, hps⟩ := hcer.pairs
  obtain ⟨Q, q, qc, qs, rfl, hq20, hqs⟩ := hmor.pairs
  have HX : Hid (m ≤ maxLen ∧ p ≤ maxLen ∧ q ≤ maxLen) := by show m ≤ maxLen ∧ p ≤ maxLen ∧ q ≤ maxLen; unfold maxLen; omega
  have F := bel_trans (bel_alloc w1 (.cells #[.int .i64 s, .int .i64 l, .int .i64 c, .int .i64 sh, .slice (some ⟨q', o, none⟩) m cap'] 26)) (bel_alloc _ (.cells #[.int .i64 k1, .int .i64 k2, .int .i64 k3, .int .i64 k4, .int .i64 k5, .int .i64 t1, .int .i64 t2, .int .i64 v1, .int .i64 o1, .int .i64 o2, .int .i64 v2, .slice P p pc, .slice Q q qc, .int .i64 l1, .int .i64 l2, .int .i64 v3] 31))
  have D2 := (Box.new w1 26 #[.int .i64 s, .int .i64 l, .int .i64 c, .int .i64 sh, .slice (some ⟨q', o, none⟩) m cap']).alloc (.cells #[.int .i64 k1, .int .i64 k2, .int .i64 k3, .int .i64 k4, .int .i64 k5, .int .i64 t1, .int .i64 t2, .int .i64 v1, .int .i64 o1, .int .i64 o2, .int .i64 v2, .slice P p pc, .slice Q q qc, .int .i64 l1, .int .i64 l2, .int .i64 v3] 31)
  have X2 := Box.new (w1.alloc (.cells #[.int .i64 s, .int .i64 l, .int .i64 c, .int .i64 sh, .slice (some ⟨q', o, none⟩) m cap'] 26)) 31 #[.int .i64 k1, .int .i64 k2, .int .i64 k3, .int .i64 k4, .int .i64 k5, .int .i64 t1, .int .i64 t2, .int .i64 v1, .int .i64 o1, .int .i64 o2, .int .i64 v2, .slice P p pc, .slice Q q qc, .int .i64 l1, .int .i64 l2, .int .i64 v3]
  simp only [World.size_alloc] at X2
  have K2 : WK w _ w1.heap.size (w1.heap.size + 1) _ _ _ m zs P p ps Q q qs := ⟨D2, X2, bel_trans hb1 F, (hrow.below F (Nat.le_refl _)).more F.size, hps.later F, hqs.later F⟩
  have hs1 := hb1.size
  clear hrow hps hqs hcer hmor hb1 F D2 X2
  obtain ⟨bn, hbn⟩ : ∃ bn, bn = ntB s l c sh zs k1 k2 k3 k4 k5 t1 t2 v1 o1 o2 v2 ps qs l1 l2 v3 := ⟨_, rfl⟩
  obtain ⟨bs, hbs⟩ : ∃ bs, bs = packL s l c sh zs k1 k2 k3 k4 k5 t1 t2 v1 o1 o2 v2 ps qs l1 l2 v3 := ⟨_, rfl⟩
  have hbl : bs.length ≤ 500 := by rw [hbs]; exact packL_len ..
  replace hbs := Lib.hid hbs
  replace hbn := Lib.hid hbn
  have HSI := Lib.hid (sizeN (N := #[.int .i64 k1, .int .i64 k2, .int .i64 k3, .int .i64 k4, .int .i64 k5, .int .i64 t1, .int .i64 t2, .int .i64 v1, .int .i64 o1, .int .i64 o2, .int .i64 v2, .slice P p pc, .slice Q q qc, .int .i64 l1, .int .i64 l2, .int .i64 v3]) rfl)
  have hff : (bn != bn) = false := by simp
  go_upto_region 4 with fail
  generalize ((w1.alloc _).alloc _ : World) = w2 at K2 ⊢
  go_cut [5, 6] (fun v u wr => ∃ g gc, v = .slice (some ⟨g, 0, none⟩) bs.length gc ∧ u = .bool bn ∧ bs.length ≤ gc ∧ w2.heap.size ≤ g ∧ BHeld wr g bs ∧ Below w2.heap.size w2 wr)
  case first => as_aux_lemma =>
    obtain ⟨g0, g1, g2, g3, g4⟩ := K2.D.five
    have X2 := K2.X
    go_wp2_with (refine wpList_load_box 31 _ rfl (w1.heap.size + 1) rfl 31 #[.int .i64 k1, .int .i64 k2, .int .i64 k3, .int .i64 k4, .int .i64 k5, .int .i64 t1, .int .i64 t2, .int .i64 v1, .int .i64 o1, .int .i64 o2, .int .i64 v2, .slice P p pc, .slice Q q qc, .int .i64 l1, .int .i64 l2, .int .i64 v3] X2 _ Tryd.underlying31 rfl HSI.out (by simp [Region.wanted, yielded]) ?_)
    refine (packNote_is (N := #[.int .i64 k1, .int .i64 k2, .int .i64 k3, .int .i64 k4, .int .i64 k5, .int .i64 t1, .int .i64 t2, .int .i64 v1, .int .i64 o1, .int .i64 o2, .int .i64 v2, .slice P p pc, .slice Q q qc, .int .i64 l1, .int .i64 l2, .int .i64 v3]) rfl s l c sh _ m cap' zs ps qs w2 HX.out.1 HX.out.2.1 HX.out.2.2 K2.R K2.P K2.Q).mono ?_
    rintro e w3 ⟨g, gc, cs, rfl, hcs, hown, hb⟩
    obtain rfl : cs = bs := by rw [hcs.out, hbs.out]
    rw [← hbn.out]
    have hg := (hown.lt g rfl).1
    have hO := hown.held
    have hC := hown.cap
    clear K2 X2 g0 g1 g2 g3 g4 hown hcs
    go_wp2_with fail
    go_meet
    exact ⟨g, gc, rfl, rfl, hC, hg, hO, hb⟩
  case rest =>
  obtain ⟨g, gc, rfl, rfl, hgc, hg2, G3, hb⟩ := hcut
  obtain ⟨w3, rfl⟩ : ∃ x, x = wc := ⟨_, rfl⟩
  replace K2 := K2.later hb
  clear hb
  go_upto_region 5 with fail
  go_cut [28] (fun v wr => v = .bool false ∧ Below w3.heap.size w3 wr)
  case first => as_aux_lemma =>
    obtain ⟨g0, g1, g2, g3, g4⟩ := K2.D.five
    have X2 := K2.X
    go_wp2_with (refine wpList_load_box 31 _ rfl (w1.heap.size + 1) rfl 31 #[.int .i64 k1, .int .i64 k2, .int .i64 k3, .int .i64 k4, .int .i64 k5, .int .i64 t1, .int .i64 t2, .int .i64 v1, .int .i64 o1, .int .i64 o2, .int .i64 v2, .slice P p pc, .slice Q q qc, .int .i64 l1, .int .i64 l2, .int .i64 v3] X2 _ Tryd.underlying31 rfl HSI.out (by simp [Region.wanted, yielded]) ?_)
    refine (specNoteN_is (N := #[.int .i64 k1, .int .i64 k2, .int .i64 k3, .int .i64 k4, .int .i64 k5, .int .i64 t1, .int .i64 t2, .int .i64 v1, .int .i64 o1, .int .i64 o2, .int .i64 v2, .slice P p pc, .slice Q q qc, .int .i64 l1, .int .i64 l2, .int .i64 v3]) rfl s l c sh _ m cap' zs ps qs w3 HX.out.1 HX.out.2.1 HX.out.2.2 K2.R K2.P K2.Q).mono ?_
    rintro e w4 ⟨rfl, hb⟩
    rw [← hbn.out]
    clear K2 X2 g0 g1 g2 g3 g4 G3
    go_wp2_with fail
    go_meet
    exact ⟨rfl, hb⟩
  case rest =>
  obtain ⟨rfl, hb⟩ := hcut
  obtain ⟨w4, rfl⟩ : ∃ x, x = wc := ⟨_, rfl⟩
  replace K2 := K2.later hb
  replace G3 := G3.later hb
  clear hb
  rcases bn with _ | _
  · have hb0 : bs = [] := by rw [hbs.out, packL, if_neg (by rw [← hbn.out]; simp)]
    subst hb0
    obtain ⟨g0, g1, g2, g3, g4⟩ := K2.D.five
    have X2 := K2.X
    go_wp2_with (refine wpList_load_box 31 _ rfl (w1.heap.size + 1) rfl 31 #[.int .i64 k1, .int .i64 k2, .int .i64 k3, .int .i64 k4, .int .i64 k5, .int .i64 t1, .int .i64 t2, .int .i64 v1, .int .i64 o1, .int .i64 o2, .int .i64 v2, .slice P p pc, .slice Q q qc, .int .i64 l1, .int .i64 l2, .int .i64 v3] X2 _ Tryd.underlying31 rfl HSI.out (by simp [Region.wanted, yielded, Act.put]) ?_)
    refine (noteN_is (N := #[.int .i64 k1, .int .i64 k2, .int .i64 k3, .int .i64 k4, .int .i64 k5, .int .i64 t1, .int .i64 t2, .int .i64 v1, .int .i64 o1, .int .i64 o2, .int .i64 v2, .slice P p pc, .slice Q q qc, .int .i64 l1, .int .i64 l2, .int .i64 v3]) rfl s l c sh _ m cap' zs ps qs w4 HX.out.1 HX.out.2.1 HX.out.2.2 K2.R K2.P K2.Q).mono ?_
    rintro e w5 ⟨rfl, hb⟩
    rw [← hbn.out]
    have E := bel_trans K2.E hb
    clear K2 X2 g0 g1 g2 g3 g4 G3
    go_wp2
    go_ret
    exact ⟨rfl, E⟩
  · have hbp : bs = packN (numN k1 k2 k3 k4 k5 t1 t2 v1 o1 o2 v2 l1 l2 v3) ps qs := by rw [hbs.out, packL, if_pos hbn.out.symm]
    obtain ⟨hrd, hok, hBy, hl0, hno⟩ := pack_reads hbn.out.symm hbp
    have hX : Hid (numN k1 k2 k3 k4 k5 t1 t2 v1 o1 o2 v2 l1 l2 v3 = XR s l c sh zs bs) := Lib.hid (by simp [XR, hok, hrd])
    have hP : Hid (ps = PR s l c sh zs bs) := Lib.hid (by simp [PR, hok, hrd])
    have hQ : Hid (qs = QR s l c sh zs bs) := Lib.hid (by simp [QR, hok, hrd])
    have hup := Lib.hid K2.P.1
    have hvq := Lib.hid K2.Q.1
    obtain ⟨L, hL⟩ : ∃ L, bs.length = L := ⟨_, rfl⟩
    rw [hL] at hl0 hgc hbl hno ⊢
    have HLX : Hid (L ≤ maxLen) := by show L ≤ maxLen; unfold maxLen; omega
    replace hL := Lib.hid hL
    replace hok := Lib.hid hok.symm
    replace hBy := Lib.hid hBy
    replace hno := Lib.hid hno
    clear hrd hbp
    go_upto_region 9 with fail
    go_cut [7, 8] (fun v u wr => ∃ S U V, v = .pointer (some ⟨S, 0, none⟩) ∧ u = .bool true ∧ w4.heap.size ≤ S ∧ Box wr S 31 (noteA (numN k1 k2 k3 k4 k5 t1 t2 v1 o1 o2 v2 l1 l2 v3) (.slice U p p) (.slice V q q)) ∧ Pairs wr wr.heap.size U p ps ∧ Pairs wr wr.heap.size V q qs ∧ Below w4.heap.size w4 wr)
    case first => as_aux_lemma =>
      obtain ⟨g0, g1, g2, g3, g4⟩ := K2.D.five
      go_wp2_with fail
      refine (readNote_is aE aM aS aL w.heap.size s l c sh _ m cap' zs _ L gc bs w4 (HE.out.later K2.E (Nat.le_refl _)) K2.E.size HX.out.1 K2.R (G3.row hL.out) hBy.out HLX.out hgc).mono ?_
      rintro e w5 hS
      obtain ⟨U, V, rfl, a1, a2, -, hb6⟩ := reads_at hX.out hP.out hQ.out hok.out hup.out hvq.out hS
      clear hS
      obtain ⟨N, hN⟩ : ∃ N, N = (noteA (numN k1 k2 k3 k4 k5 t1 t2 v1 o1 o2 v2 l1 l2 v3) (.slice U p p) (.slice V q q)) := ⟨_, rfl⟩
      have sh1 := noteA_shape (numN k1 k2 k3 k4 k5 t1 t2 v1 o1 o2 v2 l1 l2 v3) (.slice U p p) (.slice V q q)
      rw [← hN] at sh1 ⊢
      have HI := Lib.hid sh1.info
      have HS := Lib.hid (show ZN.size = N.size from sh1.size.symm)
      have H1 := Lib.hid (sh1.one rfl rfl)
      have F := bel_setRow (bel_alloc w5 (.cells ZN 31)) (Nat.le_refl _) N
      have N6 := (Box.new w5 31 ZN).setRow N
      have b1 := (a1.later F).pairs
      have b2 := (a2.later F).pairs
      have F6 := bel_trans hb6 F
      have hs6 := hb6.size
      replace hN := Lib.hid hN
      clear g0 g1 g2 g3 g4 K2 G3 a1 a2 F hb6 sh1
      go_wp2_with (refine wpList_store_row rfl 31 _ _ rfl w5.heap.size N rfl rfl 31 ZN (heap_alloc_new w5 _) HI.out HS.out H1.out ?_)
      go_meet
      exact ⟨w5.heap.size, U, V, rfl, rfl, hs6, hN.out ▸ N6, b1, b2, F6⟩
    case rest =>
    obtain ⟨S, U, V, rfl, rfl, hS4, S5, u5, v5, hb⟩ := hcut
    obtain ⟨w5, rfl⟩ : ∃ x, x = wc := ⟨_, rfl⟩
    obtain ⟨N, hN⟩ : ∃ N, N = (noteA (numN k1 k2 k3 k4 k5 t1 t2 v1 o1 o2 v2 l1 l2 v3) (.slice U p p) (.slice V q q)) := ⟨_, rfl⟩
    have HI : Hid ((Tryd.prog.info? 31).map (·.size) = some N.size) := Lib.hid (by rw [hN]; exact (noteA_shape _ _ _).info)
    rw [← hN] at S5
    replace hN := Lib.hid hN
    have hx4 := K2.X.lt
    have hSX : w1.heap.size + 1 ≠ S := by omega
    replace K2 := K2.later hb
    replace G3 := G3.later hb
    clear hb
    go_upto_region 10 with fail
    go_cut [10] (fun v wr => v = .bool false ∧ Below w5.heap.size w5 wr)
    case first =>
      obtain ⟨g0, g1, g2, g3, g4⟩ := K2.D.five
      have HC := Lib.hid (fun W hW => cutRead_is aE aM aS aL w.heap.size s l c sh _ m cap' zs g L gc bs w5 W (HE.out.later K2.E (Nat.le_refl _)) K2.E.size HX.out.1 K2.R G3 hBy.out hL.out hbl hgc hno.out hW)
      have D5 := K2.D
      have hL1 : (1 : Int) ≤ (L : Int) := by omega
      have hL0 : (0 : Int) ≤ (L : Int) - 1 := by omega
      have hLc : (L : Int) - 1 ≤ (gc : Int) := by omega
      have hLw : IntKind.i64.wrap ((L : Int) - 1) = (L : Int) - 1 := IntWalk.i64_in _ (by omega)
      clear K2 S5 u5 v5 G3
      go_wp2_with fail
      go_region_held3 (fun w' => w'.cell? ⟨w1.heap.size, 0, none⟩ = some (.int .i64 s) ∧ w'.cell? ⟨w1.heap.size, 1, none⟩ = some (.int .i64 l) ∧ w'.cell? ⟨w1.heap.size, 2, none⟩ = some (.int .i64 c) ∧ w'.cell? ⟨w1.heap.size, 3, none⟩ = some (.int .i64 sh) ∧ w'.cell? ⟨w1.heap.size, 4, none⟩ = some (.slice (some ⟨q', o, none⟩) m cap')) (first | (with_reducible exact K6) | (with_reducible exact K7) | go_keep)
        (first
          | (go_at_call 11; refine (HC.out _ ?_).mono ?_; (first | (with_reducible exact bel_drew (Below.refl _ _)) | (with_reducible exact bel_drew (bel_alloc _ _))); rintro e w6 ⟨rfl, hb6⟩; (first | (have F6 := bel_of_alloc (bel_drew' hb6); have B6 := box_of_alloc (bel_drew' hb6); have hst := store_zn B6; have F7 := bel_setRow F6 (Nat.le_refl _) ZN) | (have F6 := bel_drew' hb6; have hst := store_zn_new w6; have F7 := bel_setRow (bel_trans F6 (bel_alloc w6 (.cells ZN 31))) F6.size ZN)); have K6 := (D5.later F6 D5.lt).five; have K7 := (D5.later F7 D5.lt).five))
      all_goals
        clear K6 K7 HC hst
        go_wp2_with fail
        go_meet
        exact ⟨rfl, F7⟩
    case rest =>
    obtain ⟨rfl, hb⟩ := hcut
    obtain ⟨w6, rfl⟩ : ∃ x, x = wc := ⟨_, rfl⟩
    replace K2 := K2.later hb
    replace S5 := S5.later hb S5.lt
    replace u5 := u5.later hb
    replace v5 := v5.later hb
    clear hb G3
    have X6 := K2.X
    go_wp2_with (first | (refine wpList_load_box 31 _ rfl S rfl 31 N S5 _ Tryd.underlying31 rfl HI.out (by simp [Region.wanted, yielded, Act.put]) ?_) | (refine wpList_load_box 31 _ rfl (w1.heap.size + 1) rfl 31 #[.int .i64 k1, .int .i64 k2, .int .i64 k3, .int .i64 k4, .int .i64 k5, .int .i64 t1, .int .i64 t2, .int .i64 v1, .int .i64 o1, .int .i64 o2, .int .i64 v2, .slice P p pc, .slice Q q qc, .int .i64 l1, .int .i64 l2, .int .i64 v3] X6 _ Tryd.underlying31 rfl HSI.out (by simp [Region.wanted, yielded, Act.put]) ?_))
    refine (likeRead_is hN.out P pc Q qc ps qs w6 (by omega) (by omega) u5 v5 K2.P K2.Q).mono ?_
    rintro e w7 ⟨rfl, hb⟩
    have E := bel_trans K2.E hb
    clear K2 S5 X6 u5 v5 hb
    go_wp2
    go_ret
    exact ⟨rfl, E⟩

end Go.Proofs.YtgjbebfcbpfngaaDoor
