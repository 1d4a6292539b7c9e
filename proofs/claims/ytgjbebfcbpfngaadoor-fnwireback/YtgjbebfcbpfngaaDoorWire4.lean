/- What PackNote of impl/l06_wire.go answers: its contract; the conditions are the sizes. -/
import Derived.Test.YtgjbebfcbpfngaaDoorWire3
import Derived.Test.YtgjbebfcbpfngaaDoorNote4
namespace Go.Proofs.YtgjbebfcbpfngaaDoor
open Go.RowKit Go.Deep

/-- What PackNote leaves: bytes of its own, and a flag. -/
def Packs (w : World) (bs : List Int) (b : Bool) (e : Ending) (w' : World) : Prop :=
  ∃ (g cap : Nat) (cs : List Int), e = .returned (.tuple #[.slice (some ⟨g, 0, none⟩) cs.length cap, .bool b]) ∧ Hid (cs = bs) ∧ BOwn w' w.heap.size g cap cs ∧ Below w.heap.size w w'

theorem own_low {w : World} {base base' : Nat} {e : TypeId} {size : Nat} {v : Value} {n : Nat} {xs : List Value} (h : w.ownsRow base e size v n xs) (hb : base' ≤ base) : w.ownsRow base' e size v n xs := by
  refine ⟨h.1, ?_⟩
  rcases h.2 with h | ⟨g, cap, cur, h1, h2, h3⟩
  · exact .inl h
  · exact .inr ⟨g, cap, cur, h1, by omega, h3⟩
theorem Laid.fresh (w : World) : Laid (w.alloc (.cells #[] 5)) (w.alloc (.cells #[] 5)) w.heap.size w.heap.size w.heap.size 0 [] :=
  Laid.start ⟨rfl, .inr ⟨w.heap.size, 0, #[], rfl, Nat.le_refl _, heap_alloc_new w _, Nat.le_refl _, Nat.zero_le _, rfl, rfl⟩⟩
theorem Laid.bel {w w0 wr : World} {base g0 g cap : Nat} {bs : List Int} (h : Laid w0 wr base g0 g cap bs) (hb : Below w.heap.size w w0) (hg : w.heap.size ≤ g0) : Below w.heap.size w wr := bel_grown hb h.grw hg

set_option maxHeartbeats 8000000 in
theorem pack_no {N : Array Value} {k1 k2 k3 k4 k5 t1 t2 v1 o1 o2 v2 : Int} {P : Option Addr} {p pc : Nat} {Q : Option Addr} {q qc : Nat} {l1 l2 v3 : Int} (hN : N = #[.int .i64 k1, .int .i64 k2, .int .i64 k3, .int .i64 k4, .int .i64 k5, .int .i64 t1, .int .i64 t2, .int .i64 v1, .int .i64 o1, .int .i64 o2, .int .i64 v2, .slice P p pc, .slice Q q qc, .int .i64 l1, .int .i64 l2, .int .i64 v3]) (s l c sh : Int) (A : Option Addr) (n cap : Nat) (zs : List Int) (ps qs : List (Int × Int)) (w : World) (hm : n ≤ maxLen) (hmp : p ≤ maxLen) (hmq : q ≤ maxLen) (hr : Row w w.heap.size A n zs) (hp : Pairs w w.heap.size P p ps) (hq : Pairs w w.heap.size Q q qs)
    (hno : ntB s l c sh zs k1 k2 k3 k4 k5 t1 t2 v1 o1 o2 v2 ps qs l1 l2 v3 = false) :
    Calls Tryd.prog 8 #[.agg #[.int .i64 s, .int .i64 l, .int .i64 c, .int .i64 sh, .slice A n cap], .agg N] w (Packs w [] false) := by
  have K0 := NGP.start w 31 26 N #[.int .i64 s, .int .i64 l, .int .i64 c, .int .i64 sh, .slice A n cap] A n zs P p ps Q q qs hr hp hq
  have HZ := Lib.hid (sizeN hN)
  have HN := Lib.hid hN
  have HM := Lib.hid hm
  have HMP := Lib.hid hmp
  have HMQ := Lib.hid hmq
  have HNO := Lib.hid hno
  have cN := K0.nb.cell
  obtain ⟨g0, g1, g2, g3, g4⟩ := K0.gb.five
  clear hr hm hmp hmq hp hq hN hno
  go_enter Tryd.func8, Tryd.ntmps8
  go_wp2_with (refine wpList_load_box 31 _ rfl (w.heap.size + 1) rfl 31 N K0.nb _ Tryd.underlying31 rfl HZ.out (by simp [Region.wanted, yielded]) ?_)
  generalize ((w.alloc _).alloc _ : World) = w0 at K0 cN g0 g1 g2 g3 g4 ⊢
  refine (noteN_is HN.out s l c sh A n cap zs ps qs w0 HM.out HMP.out HMQ.out K0.row K0.prs K0.qrs).mono ?_
  rintro e w1 ⟨rfl, hb⟩
  rw [HNO.out]
  have K1 := K0.later hb
  clear hb K0 cN g0 g1 g2 g3 g4
  have E := Lib.hid (K1.bel)
  have hsz := K1.bel.size
  clear K1
  go_wp2
  go_ret2
  exact ⟨w1.heap.size, 0, [], rfl, Lib.hid rfl, own_low (Laid.fresh w1).own hsz, bel_trans E.out (bel_alloc _ _)⟩

/-- What the loop over a note's numbers keeps. -/
structure PackAt (w wr : World) (base R M : Nat) (N : Array Value) (P : Option Addr) (p : Nat) (ps : List (Int × Int)) (Q : Option Addr) (q : Nat) (qs : List (Int × Int)) (w0 : World) (g cap : Nat) (cs : List Int) : Prop where
  laid : Laid w0 wr base base g cap cs
  nb : Box wr M 31 N
  rb : Box wr R 57 (ptrs M)
  prs : Pairs wr base P p ps
  qrs : Pairs wr base Q q qs
  b0 : Below w.heap.size w w0
  wb : w.heap.size ≤ base
  b1 : base < w0.heap.size
  Mb : M < base
  Rb : base < R
  Rl : R < w0.heap.size
theorem PackAt.lay {w wr w' : World} {base R M : Nat} {N : Array Value} {P : Option Addr} {p : Nat} {ps : List (Int × Int)} {Q : Option Addr} {q : Nat} {qs : List (Int × Int)} {w0 : World} {g cap g' cap' : Nat} {cs cs' : List Int}
    (h : PackAt w wr base R M N P p ps Q q qs w0 g cap cs) (k : Laid wr w' base g g' cap' cs') : PackAt w w' base R M N P p ps Q q qs w0 g' cap' cs' := by
  have hg := h.laid.gpos
  have hs := h.laid.grw.size
  have hb1 := h.b1
  have hR : R ≠ g := by
    have := h.Rb
    have := h.Rl
    rcases h.laid.pos with e | e <;> omega
  exact ⟨h.laid.trans k, k.row h.nb h.Mb hg.1, h.rb.kept k.grw (by intro e; injection e with e; omega), h.prs.laid k (by omega) hg.1, h.qrs.laid k (by omega) hg.1, h.b0, h.wb, h.b1, h.Mb, h.Rb, h.Rl⟩

set_option maxRecDepth 100000 in
set_option maxHeartbeats 8000000 in
theorem pack_yes {N : Array Value} {k1 k2 k3 k4 k5 t1 t2 v1 o1 o2 v2 : Int} {P : Option Addr} {p pc : Nat} {Q : Option Addr} {q qc : Nat} {l1 l2 v3 : Int} (hN : N = #[.int .i64 k1, .int .i64 k2, .int .i64 k3, .int .i64 k4, .int .i64 k5, .int .i64 t1, .int .i64 t2, .int .i64 v1, .int .i64 o1, .int .i64 o2, .int .i64 v2, .slice P p pc, .slice Q q qc, .int .i64 l1, .int .i64 l2, .int .i64 v3]) (s l c sh : Int) (A : Option Addr) (n cap : Nat) (zs : List Int) (ps qs : List (Int × Int)) (w : World) (hm : n ≤ maxLen) (hmp : p ≤ maxLen) (hmq : q ≤ maxLen) (hr : Row w w.heap.size A n zs) (hp : Pairs w w.heap.size P p ps) (hq : Pairs w w.heap.size Q q qs)
    (hyes : ntB s l c sh zs k1 k2 k3 k4 k5 t1 t2 v1 o1 o2 v2 ps qs l1 l2 v3 = true) :
    Calls Tryd.prog 8 #[.agg #[.int .i64 s, .int .i64 l, .int .i64 c, .int .i64 sh, .slice A n cap], .agg N] w (Packs w (packN (numN k1 k2 k3 k4 k5 t1 t2 v1 o1 o2 v2 l1 l2 v3) ps qs) true) := by
  have K0 := NGP.start w 31 26 N #[.int .i64 s, .int .i64 l, .int .i64 c, .int .i64 sh, .slice A n cap] A n zs P p ps Q q qs hr hp hq
  have HF := Lib.hid (nt_fits hyes)
  have HLP := Lib.hid hp.1
  have HLQ := Lib.hid hq.1
  have HZ := Lib.hid (sizeN hN)
  have HN := Lib.hid hN
  have HM := Lib.hid hm
  have HMP := Lib.hid hmp
  have HMQ := Lib.hid hmq
  have HY := Lib.hid hyes
  obtain ⟨ns, hns⟩ : ∃ ns, ns = numN k1 k2 k3 k4 k5 t1 t2 v1 o1 o2 v2 l1 l2 v3 := ⟨_, rfl⟩
  have hnl : Hid (ns.length = 14) := Lib.hid (by rw [hns]; rfl)
  have HNS := Lib.hid hns
  rw [← hns]
  have hp20 : p ≤ 20 := by rw [← hp.1]; exact HF.out.pl
  have hq20 : q ≤ 20 := by rw [← hq.1]; exact HF.out.ql
  have cN := K0.nb.cell
  obtain ⟨g0, g1, g2, g3, g4⟩ := K0.gb.five
  clear hr hm hmp hmq hp hq hN hyes hns
  go_enter Tryd.func8, Tryd.ntmps8
  go_wp2_with (refine wpList_load_box 31 _ rfl (w.heap.size + 1) rfl 31 N K0.nb _ Tryd.underlying31 rfl HZ.out (by simp [Region.wanted, yielded]) ?_)
  generalize ((w.alloc _).alloc _ : World) = w0 at K0 cN g0 g1 g2 g3 g4 ⊢
  refine (noteN_is HN.out s l c sh A n cap zs ps qs w0 HM.out HMP.out HMQ.out K0.row K0.prs K0.qrs).mono ?_
  rintro e w1 ⟨rfl, hb⟩
  rw [HY.out]
  have K1 := K0.later hb
  clear hb K0 cN g0 g1 g2 g3 g4
  have L1 := Laid.fresh w1
  have E1 := bel_alloc w1 (.cells #[] 5)
  have N1 := K1.nb.later E1 K1.nb.lt
  have P1 := K1.prs.below E1 (Nat.le_refl _)
  have Q1 := K1.qrs.below E1 (Nat.le_refl _)
  have B1 := bel_trans K1.bel E1
  have hM1 := K1.nb.lt
  have hW1 := K1.bel.size
  have hs1 : w1.heap.size < (w1.alloc (.cells #[] 5)).heap.size := by simp
  clear K1 E1
  go_wp2_with fail
  generalize (w1.alloc _ : World) = w2 at L1 N1 P1 Q1 B1 hs1 ⊢
  generalize w1.heap.size = base at L1 P1 Q1 hM1 hW1 hs1 ⊢
  refine (numbers_is (w.heap.size + 1) w2).mono ?_
  rintro e w3 ⟨rfl, hR, hb3⟩
  have hs3 := hR.lt
  have PA : PackAt w w3 base w2.heap.size (w.heap.size + 1) N P p ps Q q qs w3 base 0 [] :=
    ⟨Laid.start (L1.own.kept (grown_bel hb3 none) (.inr (by intro e; cases e))), N1.later hb3 N1.lt, hR, P1.below hb3 (by omega), Q1.below hb3 (by omega), bel_trans B1 hb3, hW1, by omega, hM1, hs1, hs3⟩
  clear L1 N1 P1 Q1 B1 hR hb3
  go_wp2_with fail
  generalize w2.heap.size = R at PA hs1 hs3 ⊢
  go_loopw [6, 17] (fun bv iv wr => ∃ (k gr cr : Nat) (cs : List Int), k ≤ 14 ∧ iv = .int .i64 k ∧ bv = .slice (some ⟨gr, 0, none⟩) cs.length cr ∧ Hid (cs = layAll (ns.take k)) ∧ PackAt w wr base R (w.heap.size + 1) N P p ps Q q qs w3 gr cr cs) (fun _ i _ => 14 - (intOf i).toNat)
  case atStart => exact ⟨0, base, 0, [], Nat.zero_le _, rfl, rfl, Lib.hid rfl, PA⟩
  case round =>
    obtain ⟨k, gr, cr, cs, hk, rfl, rfl, hcs, hK⟩ := hrel
    clear PA
    have hcl : cs.length ≤ 500 := by rw [hcs.out]; exact take_len (by rw [HNS.out]; exact HF.out.num) (by rw [hnl.out]; omega) k
    have hsz := hK.laid.grw.size
    have hb1 := hK.b1
    by_cases hlt : k < 14
    · obtain ⟨j, r0, n0⟩ := ptrs_at HN.out (w.heap.size + 1) k hlt
      rw [← HNS.out] at n0
      have c0 := (hK.rb.cell k).trans r0
      have c1 := (hK.nb.cell j).trans n0
      have hnum := Lib.hid (nth_num (ns := ns) (k := k) (by rw [HNS.out]; exact HF.out.num) (by rw [hnl.out]; exact hlt))
      have hst := Lib.hid (take_lay (ns := ns) (k := k) (by rw [hnl.out]; exact hlt))
      generalize nth ns k = x at c1 hnum hst
      clear r0 n0
      have hlt' : (k : Int) < 14 := by omega
      go_wp2_with fail
      refine (layNumber_is base gr cr cs.length cs x wr hnum.out rfl (by omega) (by omega) hK.laid.own).mono ?_
      rintro e w4 ⟨g4, c4, cs4, rfl, hc4, K4⟩
      have KC := Lib.hid (hK.lay K4)
      have HE4 : Hid (cs4 = layAll (ns.take (k + 1))) := Lib.hid (by rw [hc4.out, hcs.out, hst.out])
      clear K4 hK c0 c1 hc4 hst
      go_wp2
      go_roundw
      case rel => exact ⟨k + 1, g4, c4, cs4, by omega, by go_num, rfl, HE4, KC.out⟩
      case measure => simp [intOf]; omega
    · have hkn : k = 14 := by omega
      subst hkn
      have HE : Hid (cs = layAll ns) := Lib.hid (by rw [hcs.out, List.take_of_length_le (by rw [hnl.out]; exact Nat.le_refl _)])
      obtain ⟨len1, len2, len3⟩ := pack_len HF.out
      rw [← HNS.out, ← HE.out] at len1
      clear hcs hcl
      have c11 := (hK.nb.cell 11).trans (cellsN HN.out).2.2.2.2.2.2.2.2.2.2.2.1
      have c12 := (hK.nb.cell 12).trans (cellsN HN.out).2.2.2.2.2.2.2.2.2.2.2.2.1
      go_wp2_with fail
      refine (laySeals_is base gr cr cs.length cs P p pc ps wr hK.prs (by omega) HF.out.ps rfl (by omega) (by omega) hK.laid.own).mono ?_
      rintro e w4 ⟨g4, c4, cs4, rfl, hc4, K4⟩
      have KC := hK.lay K4
      have hsz4 := KC.laid.grw.size
      have hl4 : cs4.length ≤ 275 := by rw [hc4.out, List.length_append]; omega
      clear K4 hK c11 c12
      have c12 := (KC.nb.cell 12).trans (cellsN HN.out).2.2.2.2.2.2.2.2.2.2.2.2.1
      go_wp2_with fail
      refine (laySeals_is base g4 c4 cs4.length cs4 Q q qc qs w4 KC.qrs (by omega) HF.out.qs rfl (by omega) (by omega) KC.laid.own).mono ?_
      rintro e w5 ⟨g5, c5, cs5, rfl, hc5, K5⟩
      have KD := KC.lay K5
      have HE5 : Hid (cs5 = packN ns ps qs) := Lib.hid (by rw [hc5.out, hc4.out, HE.out, packN, List.append_assoc])
      have HD := Lib.hid KD
      clear K5 KC KD c12 hc4 hc5
      go_wp2
      go_ret2
      exact ⟨g5, c5, cs5, rfl, HE5, own_low HD.out.laid.own HD.out.wb, HD.out.laid.bel HD.out.b0 HD.out.wb⟩

/-- What PackNote answers. -/
def packL (s l c sh : Int) (zs : List Int) (k1 k2 k3 k4 k5 t1 t2 v1 o1 o2 v2 : Int) (ps qs : List (Int × Int)) (l1 l2 v3 : Int) : List Int :=
  if ntB s l c sh zs k1 k2 k3 k4 k5 t1 t2 v1 o1 o2 v2 ps qs l1 l2 v3 = true then packN (numN k1 k2 k3 k4 k5 t1 t2 v1 o1 o2 v2 l1 l2 v3) ps qs else []
theorem packL_len (s l c sh : Int) (zs : List Int) (k1 k2 k3 k4 k5 t1 t2 v1 o1 o2 v2 : Int) (ps qs : List (Int × Int)) (l1 l2 v3 : Int) : (packL s l c sh zs k1 k2 k3 k4 k5 t1 t2 v1 o1 o2 v2 ps qs l1 l2 v3).length ≤ 500 := by
  unfold packL
  split
  · rename_i h
    obtain ⟨h1, h2, h3⟩ := pack_len (nt_fits h)
    simp only [packN, List.length_append]
    omega
  · simp
theorem packNote_is {N : Array Value} {k1 k2 k3 k4 k5 t1 t2 v1 o1 o2 v2 : Int} {P : Option Addr} {p pc : Nat} {Q : Option Addr} {q qc : Nat} {l1 l2 v3 : Int} (hN : N = #[.int .i64 k1, .int .i64 k2, .int .i64 k3, .int .i64 k4, .int .i64 k5, .int .i64 t1, .int .i64 t2, .int .i64 v1, .int .i64 o1, .int .i64 o2, .int .i64 v2, .slice P p pc, .slice Q q qc, .int .i64 l1, .int .i64 l2, .int .i64 v3]) (s l c sh : Int) (A : Option Addr) (n cap : Nat) (zs : List Int) (ps qs : List (Int × Int)) (w : World) (hm : n ≤ maxLen) (hmp : p ≤ maxLen) (hmq : q ≤ maxLen) (hr : Row w w.heap.size A n zs) (hp : Pairs w w.heap.size P p ps) (hq : Pairs w w.heap.size Q q qs) :
    Calls Tryd.prog 8 #[.agg #[.int .i64 s, .int .i64 l, .int .i64 c, .int .i64 sh, .slice A n cap], .agg N] w (Packs w (packL s l c sh zs k1 k2 k3 k4 k5 t1 t2 v1 o1 o2 v2 ps qs l1 l2 v3) (ntB s l c sh zs k1 k2 k3 k4 k5 t1 t2 v1 o1 o2 v2 ps qs l1 l2 v3)) := by
  unfold packL
  rcases h : ntB s l c sh zs k1 k2 k3 k4 k5 t1 t2 v1 o1 o2 v2 ps qs l1 l2 v3 with _ | _
  · rw [if_neg (by simp)]
    exact pack_no hN s l c sh A n cap zs ps qs w hm hmp hmq hr hp hq h
  · rw [if_pos rfl]
    exact pack_yes hN s l c sh A n cap zs ps qs w hm hmp hmq hr hp hq h

end Go.Proofs.YtgjbebfcbpfngaaDoor
