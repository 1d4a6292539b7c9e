/- The law FnWireBack answers true, whatever bytes it is given: its walk; conditions: the bytes can be read, the errors lie as the program lays them. -/
import Derived.Test.YtgjbebfcbpfngaaDoorDrawRead
import Derived.Test.YtgjbebfcbpfngaaDoorWireStr
import Derived.Test.YtgjbebfcbpfngaaDoorLawsRead
import Derived.Test.YtgjbebfcbpfngaaDoorBase
namespace Go.Proofs.YtgjbebfcbpfngaaDoor
open Go.RowKit

theorem back_big (A : Option Addr) (n cap : Nat) (w : World) (hm : n ≤ maxLen) (hb : 4096 < n) :
    Calls Tryd.prog 4 #[.slice A n cap] w fun e w' => e = .returned (.bool true) ∧ Below w.heap.size w w' := by
  have hd : decide (4096 < n) = true := by simpa using hb
  go_enter Tryd.func4, Tryd.ntmps4
  go_wp2_with (go_at_call 6; refine (big_any A n cap _ hm).mono ?_; rintro e w' ⟨rfl, rfl⟩)
  go_ret
  exact ⟨rfl, Below.refl _ _⟩

theorem num14 {X : List Int} (h : X.length = 14) : numN (nth X 0) (nth X 1) (nth X 2) (nth X 3) (nth X 4) (nth X 5) (nth X 6) (nth X 7) (nth X 8) (nth X 9) (nth X 10) (nth X 11) (nth X 12) (nth X 13) = X := by
  match X, h with
  | [a0, a1, a2, a3, a4, a5, a6, a7, a8, a9, a10, a11, a12, a13], _ => rfl

/-- What was read is packed again to the very bytes. -/
theorem back_facts {s l c sh : Int} {zs bs X : List Int} {ps qs : List (Int × Int)} (hB : Bys bs) (h : okR s l c sh zs bs = true) (hX : X = XR s l c sh zs bs) (hp : ps = PR s l c sh zs bs) (hq : qs = QR s l c sh zs bs) :
    ntB s l c sh zs (nth X 0) (nth X 1) (nth X 2) (nth X 3) (nth X 4) (nth X 5) (nth X 6) (nth X 7) (nth X 8) (nth X 9) (nth X 10) ps qs (nth X 11) (nth X 12) (nth X 13) = true ∧
    packL s l c sh zs (nth X 0) (nth X 1) (nth X 2) (nth X 3) (nth X 4) (nth X 5) (nth X 6) (nth X 7) (nth X 8) (nth X 9) (nth X 10) ps qs (nth X 11) (nth X 12) (nth X 13) = bs := by
  have e1 : X = (rdNote bs).1 := by rw [hX, XR, if_pos h]
  have e2 : ps = (rdNote bs).2.1 := by rw [hp, PR, if_pos h]
  have e3 : qs = (rdNote bs).2.2.1 := by rw [hq, QR, if_pos h]
  have hback := rd_back hB (okR_end h)
  rw [← e1, ← e2, ← e3] at hback
  have hnt : ntX s l c sh zs X ps qs = true := by
    simp only [okR, Bool.and_eq_true] at h
    rw [e1, e2, e3]
    exact h.2
  have h14 : X.length = 14 := by
    rw [e1]
    exact asks_len ..
  unfold ntX at hnt
  refine ⟨hnt, ?_⟩
  rw [packL, if_pos hnt, num14 h14]
  exact hback.symm

/-- What the walk of FnWireBack keeps. -/
structure BK (w wr : World) (D : Nat) (gc : Array Value) (A : Option Addr) (m : Nat) (zs : List Int) (b L : Nat) (bs : List Int) : Prop where
  D : Box wr D 26 gc
  E : Below w.heap.size w wr
  R : Row wr wr.heap.size A m zs
  B : BRow wr wr.heap.size (some ⟨b, 0, none⟩) L bs
theorem BK.later {w wr w' : World} {D : Nat} {gc : Array Value} {A : Option Addr} {m : Nat} {zs : List Int} {b L : Nat} {bs : List Int} (h : BK w wr D gc A m zs b L bs) (hb : Below wr.heap.size wr w') : BK w w' D gc A m zs b L bs :=
  ⟨h.D.later hb h.D.lt, bel_trans h.E hb, (h.R.below hb (Nat.le_refl _)).more hb.size, h.B.later hb⟩

set_option maxRecDepth 100000 in
set_option maxHeartbeats 8000000 in
theorem back_small (aE aM aS aL : Addr) (A : Option Addr) (n cap : Nat) (w : World) (hE : Errs w w.heap.size aE aM aS aL) (hn : n ≤ 4096) (hB : Bytes w w.heap.size A n) :
    Calls Tryd.prog 4 #[.slice A n cap] w fun e w' => e = .returned (.bool true) ∧ Below w.heap.size w w' := by
  have hd : decide (4096 < n) = false := by simpa using hn
  have HM : Hid (n ≤ maxLen) := by show n ≤ maxLen; unfold maxLen; omega
  have HB := Lib.hid hB
  have HE := Lib.hid hE
  clear hB hE
  go_enter Tryd.func4, Tryd.ntmps4
  go_wp2_with fail
  refine (big_any A n cap _ HM.out).mono ?_
  rintro e w' ⟨rfl, rfl⟩
  go_wp2_with fail
  refine (drawRead_any A n cap w hn HB.out).mono ?_
  rintro e w1 ⟨s, l, c, sh, q', m, cap', zs, b, bc, bs, rfl, hrow, hm, hbrow, hBy, hl1, hl2, hb1⟩
  obtain ⟨L, hL⟩ : ∃ L, bs.length = L := ⟨_, rfl⟩
  rw [hL] at hbrow hl1 hl2 ⊢
  replace hL := Lib.hid hL
  have HX : Hid (m ≤ maxLen ∧ L ≤ maxLen) := by show m ≤ maxLen ∧ L ≤ maxLen; unfold maxLen; omega
  have F := bel_alloc w1 (.cells #[.int .i64 s, .int .i64 l, .int .i64 c, .int .i64 sh, .slice (some ⟨q', 0, none⟩) m cap'] 26)
  have D2 := Box.new w1 26 #[.int .i64 s, .int .i64 l, .int .i64 c, .int .i64 sh, .slice (some ⟨q', 0, none⟩) m cap']
  have K2 : BK w _ w1.heap.size _ _ m zs b L bs := ⟨D2, bel_trans hb1 F, (hrow.below F (Nat.le_refl _)).more F.size, hbrow.later F⟩
  have hs1 := hb1.size
  clear hrow hbrow hb1 F D2
  obtain ⟨bo, hbo⟩ : ∃ bo, bo = okR s l c sh zs bs := ⟨_, rfl⟩
  obtain ⟨X, hX⟩ : ∃ X, X = XR s l c sh zs bs := ⟨_, rfl⟩
  obtain ⟨ps, hP⟩ : ∃ ps, ps = PR s l c sh zs bs := ⟨_, rfl⟩
  obtain ⟨qs, hQ⟩ : ∃ qs, qs = QR s l c sh zs bs := ⟨_, rfl⟩
  obtain ⟨p, hup⟩ : ∃ p, ps.length = p := ⟨_, rfl⟩
  obtain ⟨q, hvq⟩ : ∃ q, qs.length = q := ⟨_, rfl⟩
  have hpq : Hid (p ≤ maxLen ∧ q ≤ maxLen) := Lib.hid (by
    have := PR_len (s := s) (l := l) (c := c) (sh := sh) (zs := zs) hBy
    rw [← hP, ← hQ, hup, hvq] at this
    unfold maxLen
    omega)
  replace hBy := Lib.hid hBy
  replace hbo := Lib.hid hbo
  replace hX := Lib.hid hX
  replace hP := Lib.hid hP
  replace hQ := Lib.hid hQ
  replace hup := Lib.hid hup
  replace hvq := Lib.hid hvq
  have hff : (bo != bo) = false := by simp
  go_upto_region 4 with fail
  generalize (w1.alloc _ : World) = w2 at K2 ⊢
  go_cut [5, 6] (fun v u wr => ∃ S U V, v = .pointer (some ⟨S, 0, none⟩) ∧ u = .bool bo ∧ w2.heap.size ≤ S ∧ Box wr S 31 (noteA X (.slice U p p) (.slice V q q)) ∧ Pairs wr wr.heap.size U p ps ∧ Pairs wr wr.heap.size V q qs ∧ Below w2.heap.size w2 wr)
  case first => as_aux_lemma =>
    obtain ⟨g0, g1, g2, g3, g4⟩ := K2.D.five
    go_wp2_with fail
    refine (readNote_is aE aM aS aL w.heap.size s l c sh _ m cap' zs _ L bc bs w2 (HE.out.later K2.E (Nat.le_refl _)) K2.E.size HX.out.1 K2.R K2.B hBy.out HX.out.2 hl2).mono ?_
    rintro e w5 hS
    obtain ⟨U, V, rfl, a1, a2, -, hb6⟩ := reads_at hX.out hP.out hQ.out hbo.out hup.out hvq.out hS
    clear hS
    obtain ⟨N, hN⟩ : ∃ N, N = (noteA X (.slice U p p) (.slice V q q)) := ⟨_, rfl⟩
    have sh1 := noteA_shape X (.slice U p p) (.slice V q q)
    rw [← hN] at sh1 ⊢
    have HI := Lib.hid sh1.info
    have HS := Lib.hid (show ZN.size = N.size from sh1.size.symm)
    have H1 := Lib.hid (sh1.one rfl rfl)
    have F := bel_setRow (bel_alloc w5 (.cells ZN 31)) (Nat.le_refl _) N
    have N6 := (Box.new w5 31 ZN).setRow N
    have b1 := (a1.later F).pairs
    have b2 := (a2.later F).pairs
    have F6 := bel_trans hb6 F
    have hs6 := hb6.size
    replace hN := Lib.hid hN
    clear g0 g1 g2 g3 g4 K2 a1 a2 F hb6 sh1
    go_wp2_with (refine wpList_store_row rfl 31 _ _ rfl w5.heap.size N rfl rfl 31 ZN (heap_alloc_new w5 _) HI.out HS.out H1.out ?_)
    go_meet
    exact ⟨w5.heap.size, U, V, rfl, rfl, hs6, hN.out ▸ N6, b1, b2, F6⟩
  case rest =>
  obtain ⟨S, U, V, rfl, rfl, hS2, S3, u3, v3, hb⟩ := hcut
  obtain ⟨w3, rfl⟩ : ∃ x, x = wc := ⟨_, rfl⟩
  replace K2 := K2.later hb
  clear hb
  go_upto_region 5 with fail
  go_cut [7, 8] (fun _ u wr => u = .bool bo ∧ Below w3.heap.size w3 wr)
  case first => as_aux_lemma =>
    obtain ⟨g0, g1, g2, g3, g4⟩ := K2.D.five
    go_wp2_with fail
    refine (specRead_is s l c sh _ m cap' zs _ L bc bs w3 HX.out.1 K2.R K2.B hBy.out HX.out.2).mono ?_
    rintro e w5 hS
    obtain ⟨U', V', uc, vc, rfl, -, -, hb6⟩ := sreads_at hX.out hP.out hQ.out hbo.out hup.out hvq.out hS
    clear hS
    have sh1 := noteA_shape X (.slice U' p uc) (.slice V' q vc)
    generalize noteA X (.slice U' p uc) (.slice V' q vc) = N at sh1 ⊢
    have HI := Lib.hid sh1.info
    have HS := Lib.hid (show ZN.size = N.size from sh1.size.symm)
    have H1 := Lib.hid (sh1.one rfl rfl)
    have F6 := bel_trans hb6 (bel_setRow (bel_alloc w5 (.cells ZN 31)) (Nat.le_refl _) N)
    clear g0 g1 g2 g3 g4 K2 hb6 sh1 S3 u3 v3
    go_wp2_with (refine wpList_store_row rfl 31 _ _ rfl w5.heap.size N rfl rfl 31 ZN (heap_alloc_new w5 _) HI.out HS.out H1.out ?_)
    go_meet
    exact ⟨rfl, F6⟩
  case rest =>
  obtain ⟨rfl, hb⟩ := hcut
  obtain ⟨w4, rfl⟩ : ∃ x, x = wc := ⟨_, rfl⟩
  replace K2 := K2.later hb
  replace S3 := S3.later hb S3.lt
  replace u3 := u3.later hb
  replace v3 := v3.later hb
  clear hb
  rcases bo with _ | _
  · have hno : ¬ okR s l c sh zs bs = true := by rw [← hbo.out]; simp
    have hX0 : X = [0, 0, 0, 0, 0, 0, 0, 0, 0, 0, 0, 0, 0, 0] := by rw [hX.out, XR, if_neg hno]
    have hp0 : p = 0 := by rw [← hup.out, hP.out, PR, if_neg hno]; rfl
    subst hX0 hp0
    have s0 : w4.cell? ⟨S, 0, none⟩ = some (.int .i64 0) := S3.cell 0
    have s11 : w4.cell? ⟨S, 11, none⟩ = some (.slice U 0 0) := S3.cell 11
    have E := K2.E
    clear K2 S3 u3 v3
    go_wp2_with fail
    go_ret
    exact ⟨rfl, E⟩
  · obtain ⟨hnt, hpk⟩ := back_facts hBy.out hbo.out.symm hX.out hP.out hQ.out
    obtain ⟨N, hN⟩ : ∃ N, N = (noteA X (.slice U p p) (.slice V q q)) := ⟨_, rfl⟩
    have HI : Hid ((Tryd.prog.info? 31).map (·.size) = some N.size) := Lib.hid (by rw [hN]; exact (noteA_shape _ _ _).info)
    rw [← hN] at S3
    replace hN := Lib.hid hN
    replace hnt := Lib.hid hnt
    replace hpk := Lib.hid hpk
    go_upto_region 10 with fail
    go_cut [9, 10] (fun v u wr => ∃ y yc, v = .slice (some ⟨y, 0, none⟩) L yc ∧ u = .bool true ∧ BRow wr wr.heap.size (some ⟨y, 0, none⟩) L bs ∧ Below w4.heap.size w4 wr)
    case first => as_aux_lemma =>
      obtain ⟨g0, g1, g2, g3, g4⟩ := K2.D.five
      go_wp2_with (refine wpList_load_box 31 _ rfl S rfl 31 N S3 _ Tryd.underlying31 rfl HI.out (by simp [Region.wanted, yielded]) ?_)
      refine (packNote_is (N := N) (k1 := nth X 0) (k2 := nth X 1) (k3 := nth X 2) (k4 := nth X 3) (k5 := nth X 4) (t1 := nth X 5) (t2 := nth X 6) (v1 := nth X 7) (o1 := nth X 8) (o2 := nth X 9) (v2 := nth X 10) (P := U) (p := p) (pc := p) (Q := V) (q := q) (qc := q) (l1 := nth X 11) (l2 := nth X 12) (v3 := nth X 13) (by rw [hN.out]; rfl) s l c sh _ m cap' zs ps qs w4 HX.out.1 hpq.out.1 hpq.out.2 K2.R u3 v3).mono ?_
      rintro e w5 ⟨y, yc, cs, rfl, hcs, hown, hb⟩
      obtain rfl : cs = bs := by rw [hcs.out, hpk.out]
      rw [hnt.out]
      have hO := hown.held.row hL.out
      rw [hL.out]
      clear K2 S3 u3 v3 g0 g1 g2 g3 g4 hown hcs
      go_wp2_with fail
      go_meet
      exact ⟨y, yc, rfl, rfl, hO, hb⟩
    case rest =>
    obtain ⟨y, yc, rfl, rfl, hy, hb⟩ := hcut
    obtain ⟨w5, rfl⟩ : ∃ x, x = wc := ⟨_, rfl⟩
    replace K2 := K2.later hb
    have c1 := run_str hy yc
    have c2 := run_str K2.B bc
    have E := K2.E
    clear K2 S3 u3 v3 hb hy
    generalize bstr bs = sb at c1 c2
    go_wp2_with fail
    go_ret
    exact ⟨rfl, E⟩

end Go.Proofs.YtgjbebfcbpfngaaDoor
