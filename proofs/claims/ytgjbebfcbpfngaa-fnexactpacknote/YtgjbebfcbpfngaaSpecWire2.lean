/- What PackNote of the model answers: its contract; the conditions are the sizes. -/
import Derived.Test.YtgjbebfcbpfngaaSpecWire1
namespace Go.Proofs.Ytgjbebfcbpfngaa
open Go.RowKit Go.Deep

/-- What the loop over the numbers keeps. -/
structure SPackAt (w wr : World) (base R cR : Nat) (ys : List Int) (w0 : World) (g cap : Nat) (cs : List Int) : Prop where
  laid : Laid w0 wr base base g cap cs
  nums : IOwn wr base R cR ys
  b0 : Below w.heap.size w w0
  wb : w.heap.size ≤ base
  b1 : base < w0.heap.size
  Rb : base < R
  Rl : R < w0.heap.size
theorem SPackAt.lay {w wr w' : World} {base R cR : Nat} {ys : List Int} {w0 : World} {g cap g' cap' : Nat} {cs cs' : List Int}
    (h : SPackAt w wr base R cR ys w0 g cap cs) (k : Laid wr w' base g g' cap' cs') : SPackAt w w' base R cR ys w0 g' cap' cs' := by
  have hR : R ≠ g := by
    have := h.Rb
    have := h.Rl
    rcases h.laid.pos with e | e <;> omega
  exact ⟨h.laid.trans k, World.ownsRow.kept h.nums k.grw (.inr (by intro e; injection e with e; exact hR e)), h.b0, h.wb, h.b1, h.Rb, h.Rl⟩

theorem all_num {k1 k2 k3 k4 k5 t1 t2 v1 o1 o2 v2 l1 l2 v3 : Int} {ps qs : List (Int × Int)} (h : Fits k1 k2 k3 k4 k5 t1 t2 v1 o1 o2 v2 l1 l2 v3 ps qs) : ∀ z ∈ numN k1 k2 k3 k4 k5 t1 t2 v1 o1 o2 v2 l1 l2 v3 ++ sealN ps ++ sealN qs, Num z := by
  intro z hz
  rcases List.mem_append.1 hz with hz | hz
  · rcases List.mem_append.1 hz with hz | hz
    · exact h.num z hz
    · exact sealN_num h.pl h.ps z hz
  · exact sealN_num h.ql h.qs z hz
theorem all_len {k1 k2 k3 k4 k5 t1 t2 v1 o1 o2 v2 l1 l2 v3 : Int} {ps qs : List (Int × Int)} (h : Fits k1 k2 k3 k4 k5 t1 t2 v1 o1 o2 v2 l1 l2 v3 ps qs) : (numN k1 k2 k3 k4 k5 t1 t2 v1 o1 o2 v2 l1 l2 v3 ++ sealN ps ++ sealN qs).length ≤ 96 := by
  rw [List.length_append, List.length_append, numN_len, sealN_len, sealN_len]
  have := h.pl
  have := h.ql
  omega

set_option maxRecDepth 100000 in
set_option maxHeartbeats 8000000 in
theorem specPack_no {N : Array Value} {k1 k2 k3 k4 k5 t1 t2 v1 o1 o2 v2 : Int} {P : Option Addr} {p pc : Nat} {Q : Option Addr} {q qc : Nat} {l1 l2 v3 : Int} (hN : N = #[.int .i64 k1, .int .i64 k2, .int .i64 k3, .int .i64 k4, .int .i64 k5, .int .i64 t1, .int .i64 t2, .int .i64 v1, .int .i64 o1, .int .i64 o2, .int .i64 v2, .slice P p pc, .slice Q q qc, .int .i64 l1, .int .i64 l2, .int .i64 v3]) (s l c sh : Int) (A : Option Addr) (n cap : Nat) (zs : List Int) (ps qs : List (Int × Int)) (w : World) (hm : n ≤ maxLen) (hmp : p ≤ maxLen) (hmq : q ≤ maxLen) (hr : Row w w.heap.size A n zs) (hp : Pairs w w.heap.size P p ps) (hq : Pairs w w.heap.size Q q qs)
    (hno : ntB s l c sh zs k1 k2 k3 k4 k5 t1 t2 v1 o1 o2 v2 ps qs l1 l2 v3 = false) :
    Calls Try.prog 6 #[.agg #[.int .i64 s, .int .i64 l, .int .i64 c, .int .i64 sh, .slice A n cap], .agg N] w (Packs w [] false) := by
  have K0 := NGP.start w 40 35 N #[.int .i64 s, .int .i64 l, .int .i64 c, .int .i64 sh, .slice A n cap] A n zs P p ps Q q qs hr hp hq
  have L0 := Laid.fresh ((w.alloc (.cells #[.int .i64 s, .int .i64 l, .int .i64 c, .int .i64 sh, .slice A n cap] 35)).alloc (.cells N 40))
  simp only [World.size_alloc] at L0
  have K1 := K0.later (bel_alloc _ (.cells #[] 5))
  have HZ := Lib.hid (sizeN hN)
  have HN := Lib.hid hN
  have HM := Lib.hid hm
  have HMP := Lib.hid hmp
  have HMQ := Lib.hid hmq
  have HNO := Lib.hid hno
  have cN := K1.nb.cell
  obtain ⟨g0, g1, g2, g3, g4⟩ := K1.gb.five
  clear hr hm hmp hmq hp hq hN hno K0
  go_enter Try.func6, Try.ntmps6
  go_wp2_with (refine wpList_load_box 40 _ rfl (w.heap.size + 1) rfl 40 N K1.nb _ Try.underlying40 rfl HZ.out (by simp [Region.wanted, yielded]) ?_)
  generalize (((w.alloc _).alloc _).alloc _ : World) = w0 at K1 L0 cN g0 g1 g2 g3 g4 ⊢
  refine (specNoteN_is HN.out s l c sh A n cap zs ps qs w0 HM.out HMP.out HMQ.out K1.row K1.prs K1.qrs).mono ?_
  rintro e w1 ⟨rfl, hb⟩
  rw [HNO.out]
  have K2 := K1.later hb
  have L1 := Lib.hid (L0.own.kept (grown_bel hb none) (.inr (by intro e; cases e)))
  clear hb K1 L0 cN g0 g1 g2 g3 g4
  have E := Lib.hid (K2.bel)
  clear K2
  go_wp2
  go_ret2
  exact ⟨w.heap.size + 1 + 1, 0, [], rfl, Lib.hid rfl, own_low L1.out (by omega), E.out⟩

set_option maxRecDepth 100000 in
set_option maxHeartbeats 8000000 in
theorem specPack_yes {N : Array Value} {k1 k2 k3 k4 k5 t1 t2 v1 o1 o2 v2 : Int} {P : Option Addr} {p pc : Nat} {Q : Option Addr} {q qc : Nat} {l1 l2 v3 : Int} (hN : N = #[.int .i64 k1, .int .i64 k2, .int .i64 k3, .int .i64 k4, .int .i64 k5, .int .i64 t1, .int .i64 t2, .int .i64 v1, .int .i64 o1, .int .i64 o2, .int .i64 v2, .slice P p pc, .slice Q q qc, .int .i64 l1, .int .i64 l2, .int .i64 v3]) (s l c sh : Int) (A : Option Addr) (n cap : Nat) (zs : List Int) (ps qs : List (Int × Int)) (w : World) (hm : n ≤ maxLen) (hmp : p ≤ maxLen) (hmq : q ≤ maxLen) (hr : Row w w.heap.size A n zs) (hp : Pairs w w.heap.size P p ps) (hq : Pairs w w.heap.size Q q qs)
    (hyes : ntB s l c sh zs k1 k2 k3 k4 k5 t1 t2 v1 o1 o2 v2 ps qs l1 l2 v3 = true) :
    Calls Try.prog 6 #[.agg #[.int .i64 s, .int .i64 l, .int .i64 c, .int .i64 sh, .slice A n cap], .agg N] w (Packs w (packN (numN k1 k2 k3 k4 k5 t1 t2 v1 o1 o2 v2 l1 l2 v3) ps qs) true) := by
  have K0 := NGP.start w 40 35 N #[.int .i64 s, .int .i64 l, .int .i64 c, .int .i64 sh, .slice A n cap] A n zs P p ps Q q qs hr hp hq
  have L0 := Laid.fresh ((w.alloc (.cells #[.int .i64 s, .int .i64 l, .int .i64 c, .int .i64 sh, .slice A n cap] 35)).alloc (.cells N 40))
  simp only [World.size_alloc] at L0
  have K1 := K0.later (bel_alloc _ (.cells #[] 5))
  have HF := Lib.hid (nt_fits hyes)
  have HZ := Lib.hid (sizeN hN)
  have HN := Lib.hid hN
  have HM := Lib.hid hm
  have HMP := Lib.hid hmp
  have HMQ := Lib.hid hmq
  have HY := Lib.hid hyes
  have hp20 : p ≤ 20 := by rw [← hp.1]; exact HF.out.pl
  have hq20 : q ≤ 20 := by rw [← hq.1]; exact HF.out.ql
  have cN := K1.nb.cell
  obtain ⟨g0, g1, g2, g3, g4⟩ := K1.gb.five
  clear hr hm hmp hmq hp hq hN hyes K0
  go_enter Try.func6, Try.ntmps6
  go_wp2_with (refine wpList_load_box 40 _ rfl (w.heap.size + 1) rfl 40 N K1.nb _ Try.underlying40 rfl HZ.out (by simp [Region.wanted, yielded]) ?_)
  generalize (((w.alloc _).alloc _).alloc _ : World) = w0 at K1 L0 cN g0 g1 g2 g3 g4 ⊢
  refine (specNoteN_is HN.out s l c sh A n cap zs ps qs w0 HM.out HMP.out HMQ.out K1.row K1.prs K1.qrs).mono ?_
  rintro e w1 ⟨rfl, hb⟩
  rw [HY.out]
  have K2 := K1.later hb
  have L1 := L0.own.kept (grown_bel hb none) (.inr (by intro e; cases e))
  clear hb K1 L0 cN g0 g1 g2 g3 g4
  have cN := K2.nb.cell
  go_wp2_with (refine wpList_load_box 40 _ rfl (w.heap.size + 1) rfl 40 N K2.nb _ Try.underlying40 rfl HZ.out (by simp [Region.wanted, yielded]) ?_)
  refine (l6Numbers_is HN.out ps qs w1 hp20 hq20 K2.prs K2.qrs).mono ?_
  rintro e w2 ⟨R, cR, ys, rfl, hys, hio, hb⟩
  have L2 := L1.kept (grown_bel hb none) (.inr (by intro e; cases e))
  have hL1 := (L1.lt _ rfl).2
  have hR := hio.lt R rfl
  have hR1 : w1.heap.size ≤ R := hR.1
  have hR2 : R < w2.heap.size := hR.2
  have hLL : w.heap.size + 1 + 1 < w1.heap.size := hL1
  have PA : SPackAt w w2 (w.heap.size + 1 + 1) R cR ys w2 (w.heap.size + 1 + 1) 0 [] :=
    ⟨Laid.start L2, own_low hio (by omega), bel_trans K2.bel hb, by omega, by omega, by omega, hR2⟩
  have hyl : ys.length ≤ 96 := by rw [hys.out]; exact all_len HF.out
  have hyn : Hid (∀ z ∈ ys, Num z) := Lib.hid (by rw [hys.out]; exact all_num HF.out)
  clear L1 L2 hio hb K2 cN hR hL1
  go_wp2_with fail
  go_loopw [6, 8] (fun bv iv wr => ∃ (k gr cr : Nat) (cs : List Int), k ≤ ys.length ∧ iv = .int .i64 k ∧ bv = .slice (some ⟨gr, 0, none⟩) cs.length cr ∧ Hid (cs = layAll (ys.take k)) ∧ SPackAt w wr (w.heap.size + 1 + 1) R cR ys w2 gr cr cs) (fun _ i _ => ys.length - (intOf i).toNat)
  case atStart => exact ⟨0, _, 0, [], Nat.zero_le _, rfl, rfl, Lib.hid rfl, PA⟩
  case round =>
    obtain ⟨k, gr, cr, cs, hk, rfl, rfl, hcs, hK⟩ := hrel
    clear PA
    have hcl : cs.length ≤ 500 := by rw [hcs.out]; exact take_len hyn.out (by omega) k
    have hsz := hK.laid.grw.size
    have hb1 := hK.b1
    by_cases hlt : k < ys.length
    · obtain ⟨b, o, hA, hbB, hcell⟩ := hK.nums.row.2 (by omega)
      cases hA
      have c0 := hcell k hlt
      rw [Nat.zero_add] at c0
      have hnum := Lib.hid (nth_num (ns := ys) (k := k) hyn.out hlt)
      have hst := Lib.hid (take_lay (ns := ys) (k := k) hlt)
      generalize nth ys k = x at c0 hnum hst
      clear hcell
      have hlt' : (k : Int) < (ys.length : Int) := by omega
      go_wp2_with fail
      refine (l6Put_is (w.heap.size + 1 + 1) gr cr cs.length cs x wr hnum.out rfl (by omega) (by omega) hK.laid.own).mono ?_
      rintro e w4 ⟨g4, c4, cs4, rfl, hc4, K4⟩
      have KC := Lib.hid (hK.lay K4)
      have HE4 : Hid (cs4 = layAll (ys.take (k + 1))) := Lib.hid (by rw [hc4.out, hcs.out, hst.out])
      clear K4 hK c0 hc4 hst
      go_wp2
      go_roundw
      case rel => exact ⟨k + 1, g4, c4, cs4, by omega, by go_num, rfl, HE4, KC.out⟩
      case measure => simp [intOf]; omega
    · have hkn : k = ys.length := by omega
      have HE : Hid (cs = packN (numN k1 k2 k3 k4 k5 t1 t2 v1 o1 o2 v2 l1 l2 v3) ps qs) := Lib.hid (by rw [hcs.out, List.take_of_length_le (by omega), hys.out, packN, layAll_app, layAll_app, List.append_assoc])
      have HD := Lib.hid hK
      have hlt' : ¬ (k : Int) < (ys.length : Int) := by omega
      clear hcs hcl hK hkn
      go_wp2
      go_ret2
      exact ⟨gr, cr, cs, rfl, HE, own_low HD.out.laid.own HD.out.wb, HD.out.laid.bel HD.out.b0 HD.out.wb⟩

theorem specPackNote_is {N : Array Value} {k1 k2 k3 k4 k5 t1 t2 v1 o1 o2 v2 : Int} {P : Option Addr} {p pc : Nat} {Q : Option Addr} {q qc : Nat} {l1 l2 v3 : Int} (hN : N = #[.int .i64 k1, .int .i64 k2, .int .i64 k3, .int .i64 k4, .int .i64 k5, .int .i64 t1, .int .i64 t2, .int .i64 v1, .int .i64 o1, .int .i64 o2, .int .i64 v2, .slice P p pc, .slice Q q qc, .int .i64 l1, .int .i64 l2, .int .i64 v3]) (s l c sh : Int) (A : Option Addr) (n cap : Nat) (zs : List Int) (ps qs : List (Int × Int)) (w : World) (hm : n ≤ maxLen) (hmp : p ≤ maxLen) (hmq : q ≤ maxLen) (hr : Row w w.heap.size A n zs) (hp : Pairs w w.heap.size P p ps) (hq : Pairs w w.heap.size Q q qs) :
    Calls Try.prog 6 #[.agg #[.int .i64 s, .int .i64 l, .int .i64 c, .int .i64 sh, .slice A n cap], .agg N] w (Packs w (packL s l c sh zs k1 k2 k3 k4 k5 t1 t2 v1 o1 o2 v2 ps qs l1 l2 v3) (ntB s l c sh zs k1 k2 k3 k4 k5 t1 t2 v1 o1 o2 v2 ps qs l1 l2 v3)) := by
  unfold packL
  rcases h : ntB s l c sh zs k1 k2 k3 k4 k5 t1 t2 v1 o1 o2 v2 ps qs l1 l2 v3 with _ | _
  · rw [if_neg (by simp)]
    exact specPack_no hN s l c sh A n cap zs ps qs w hm hmp hmq hr hp hq h
  · rw [if_pos rfl]
    exact specPack_yes hN s l c sh A n cap zs ps qs w hm hmp hmq hr hp hq h

end Go.Proofs.Ytgjbebfcbpfngaa
