/- What ended of a cursor of impl/l06_wire.go answers: its contract. -/
import Derived.Test.YtgjbebfcbpfngaaDoorWire9
import Derived.Test.YtgjbebfcbpfngaaDoorWireAs
import Derived.Test.YtgjbebfcbpfngaaDoorWireCut
import Derived.Test.YtgjbebfcbpfngaaDoorBase
import Derived.Deep.RegionLaw
import Derived.Test.YtgjbebfcbpfngaaDoorNote4
namespace Go.Proofs.YtgjbebfcbpfngaaDoor
open Go.RowKit Go.Deep

/-- What the last number that is asked for leaves. -/
def LastNum (w : World) (c : Nat) (aE aM aS aL : Addr) (k : Int) (s : Option (List Int)) (e : Ending) (w' : World) : Prop :=
  ∃ (x : Int) (A : Option Addr) (n cap : Nat) (err : Value), e = .returned (.int .i64 x) ∧ Box w' c 71 #[.slice A n cap, .int .i64 (k + 1), err] ∧ w.grownBy w' (some c) ∧
    ((err = .nilIface ∧ endB s = false) ∨ ∃ (j : Int) (a : Addr), err = .iface 100 (.agg #[.int .i64 j, .iface 154 (.pointer (some a))]) ∧ (((a = aM ∨ a = aS ∨ a = aL) ∧ endB s = false) ∨ (a = aE ∧ endB s = decide (j = k + 1))))
theorem number_last (aE aM aS aL : Addr) (B C c : Nat) (k : Int) (s : Option (List Int)) (w : World) (hk0 : 0 ≤ k) (hk1 : k ≤ 100000) (hE : Errs w B aE aM aS aL) (hBc : B ≤ c) (hCc : C ≤ c) (h : Cu w C c aE aM aS aL k s) :
    Calls Tryd.prog 78 #[.pointer (some ⟨c, 0, none⟩)] w (LastNum w c aE aM aS aL k s) := by
  cases s with
  | none =>
    obtain ⟨A, n, cap, j, a, hb, hj, ha⟩ := h
    refine (number_bad c A n cap k j a w hk0 hk1 hb).mono ?_
    rintro e w' ⟨rfl, hb', hg⟩
    refine ⟨0, A, n, cap, _, rfl, hb', hg, .inr ⟨j, a, rfl, ?_⟩⟩
    rcases ha with rfl | ha
    · exact .inr ⟨rfl, by simp [endB]; omega⟩
    · exact .inl ⟨ha, rfl⟩
  | some r =>
    obtain ⟨hB, A, n, cap, hb, hr, hcap, hx⟩ := h
    cases e : num r with
    | none =>
      refine (number_no aE aM aS aL B C c A n cap k r w hk0 hk1 hE hBc hr hCc hB hx hcap hb e).mono ?_
      rintro e' w' ⟨rfl, a, hb', ha, hg⟩
      refine ⟨0, A, n, cap, _, rfl, hb', hg, .inr ⟨k + 1, a, rfl, ?_⟩⟩
      rcases ha with ⟨rfl, rfl⟩ | ⟨hne, ha⟩
      · exact .inr ⟨rfl, by simp [endB]⟩
      · refine .inl ⟨?_, ?_⟩
        · rcases ha with rfl | rfl
          · exact .inr (.inl rfl)
          · exact .inr (.inr rfl)
        · cases r with
          | nil => exact absurd rfl hne
          | cons z r => rfl
    | some p =>
      obtain ⟨x, j⟩ := p
      refine (number_yes aE aM aS aL B C c A n cap k r w x j hk0 hk1 hE hBc hr hCc hB hx hcap hb e).mono ?_
      rintro e' w' ⟨rfl, A', n', cap', hb', hr', hc', hx', hg⟩
      refine ⟨x, A', n', cap', _, rfl, hb', hg, .inl ⟨rfl, ?_⟩⟩
      cases r with
      | nil => simp [num, numF] at e
      | cons z r => rfl

/-- What ended leaves. -/
def IsEnd (w : World) (c : Nat) (b : Bool) (e : Ending) (w' : World) : Prop := e = .returned (.bool b) ∧ w.grownBy w' (some c)

set_option maxRecDepth 100000 in
set_option maxHeartbeats 4000000 in
theorem ended_is (aE aM aS aL : Addr) (B C c : Nat) (k : Int) (s : Option (List Int)) (w : World) (hk0 : 0 ≤ k) (hk1 : k ≤ 100000) (hE : Errs w B aE aM aS aL) (hBw : B ≤ w.heap.size) (hBc : B ≤ c) (hCc : C ≤ c) (h : Cu w C c aE aM aS aL k s) :
    Calls Tryd.prog 45 #[.pointer (some ⟨c, 0, none⟩)] w (IsEnd w c (endB s)) := by
  have HE := Lib.hid hE
  have HC := Lib.hid h
  clear hE h
  go_enter Tryd.func45, Tryd.ntmps45
  go_wp2_with fail
  refine (number_last aE aM aS aL B C c k s w hk0 hk1 HE.out hBc hCc HC.out).mono ?_
  rintro e w1 ⟨x, A, n, cap, err, rfl, hb, hg, hcase⟩
  have E1 := HE.out.kept hg (by omega) hBc
  have hs1 := hg.size
  have F := bel_alloc w1 (.cells #[.int .i64 0, .nilIface] 100)
  have E2 := E1.later F (by omega)
  have hb2 := hb.later F hb.lt
  have T2 := Box.new w1 100 #[.int .i64 0, .nilIface]
  have G2 := grown_trans hg (grown_bel F (some c))
  have hcl := hb.lt
  clear E1 hb hg
  rcases hcase with ⟨rfl, hend⟩ | ⟨j, a, rfl, ⟨ha, hend⟩ | ⟨rfl, hend⟩⟩
  · replace hend := Lib.hid hend
    go_wp2_with fail
    generalize (w1.alloc _ : World) = w2 at F E2 hb2 T2 G2 ⊢
    generalize w1.heap.size = T at T2 hcl hs1 ⊢
    obtain ⟨c0, c1, c2⟩ := hb2.three
    have a2 := After.cell (by exact hb2.lt) c2
    have e0 := After.cell (w := w2) (a := ⟨0, 0, none⟩) (by have := E2.lt; have := T2.lt; show 0 < w2.heap.size; omega) E2.e0
    have HG := Lib.hid G2
    clear G2 F E2 T2 hb2 c0 c1 c2
    refine wp_region_after (by kernel_rfl) (by kernel_rfl) ?_
    repeat (first | go_big_quiet_step ((go_at_call 79; exact after_of (is_nil aE _))) | quiet_step ((go_at_call 79; exact after_of (is_nil aE _))))
    refine wpQuiet_nil ?_
    intro pw
    go_wp2
    go_ret
    exact ⟨by rw [hend.out]; rfl, grown_trans HG.out (grown_bel pw.bel _)⟩
  · replace hend := Lib.hid hend
    go_wp2_with fail
    generalize (w1.alloc _ : World) = w2 at F E2 hb2 T2 G2 ⊢
    generalize w1.heap.size = T at T2 hcl hs1 ⊢
    obtain ⟨c0, c1, c2⟩ := hb2.three
    have a2 := After.cell (by exact hb2.lt) c2
    have hl := E2.lt
    have hB2 : B ≤ w2.heap.size := by have := T2.lt; omega
    have e0 := After.cell (w := w2) (a := ⟨0, 0, none⟩) (by show 0 < w2.heap.size; omega) E2.e0
    have hne : a ≠ aE := by
      rcases ha with rfl | rfl | rfl
      · exact E2.nM
      · exact E2.nS
      · exact E2.nL
    obtain ⟨ca, ta, hha⟩ : ∃ c t, w2.heap[a.block]? = some (.cells c t (0, 0)) := by
      rcases ha with rfl | rfl | rfl
      · exact E2.hM
      · exact E2.hS
      · exact E2.hL
    obtain ⟨ce, te, hhe⟩ := E2.hE
    have la : a.block < w2.heap.size := by
      rcases ha with rfl | rfl | rfl <;> omega
    have HIS := Lib.hid (fun (p : After w2) => is_fault_other j a aE ca ce ta te p.x hne ((p.bel.block _ la).trans hha) ((p.bel.block _ (by omega)).trans hhe))
    have HG := Lib.hid G2
    clear G2 F E2 T2 hb2 c0 c1 c2 hha hhe
    refine wp_region_after (by kernel_rfl) (by kernel_rfl) ?_
    repeat (first | go_big_quiet_step ((go_at_call 79; exact after_of (HIS.out _))) | quiet_step ((go_at_call 79; exact after_of (HIS.out _))))
    refine wpQuiet_nil ?_
    intro pw
    go_wp2
    go_ret
    exact ⟨by rw [hend.out]; rfl, grown_trans HG.out (grown_bel pw.bel _)⟩
  · replace hend := Lib.hid hend
    go_wp2_with fail
    generalize (w1.alloc _ : World) = w2 at F E2 hb2 T2 G2 ⊢
    generalize w1.heap.size = T at T2 hcl hs1 ⊢
    obtain ⟨c0, c1, c2⟩ := hb2.three
    have e0 := E2.e0
    have hT2 := T2.lt
    have hl := E2.lt
    have E2' := Lib.hid E2
    have T2' := Lib.hid T2
    have HB := Lib.hid hb2
    have HG := Lib.hid G2
    clear E2 T2 hb2 G2 F
    go_region_law (first
      | (go_simp; go_at_call 79; (with_reducible refine (is_fault_same j a _).mono ?_); rintro e w3 ⟨rfl, hb3⟩; have F3 := bel_drew' hb3; have B3 := HB.out.later F3 HB.out.lt; have T3 := T2'.out.later F3 T2'.out.lt; have d1 := B3.cell 1; have d2 := B3.cell 2; have g2 := Lib.hid (E2'.out.later F3 (by omega)).e2; replace T3 := Lib.hid T3)
      | (go_simp; go_at_call 80; refine (as_fault j a T (.int .i64 0) .nilIface _ g2.out T3.out).mono ?_; rintro e w4 ⟨rfl, T4, hg4⟩; have B4 := B3.kept hg4 (by intro e; injection e with e; omega); have f1 := B4.cell 1; have f2 := B4.cell 2; have t0 := T4.cell 0))
    all_goals
      have HG4 := Lib.hid (grown_far (grown_trans HG.out (grown_bel F3 (some c))) hg4 (fun q hq => by injection hq with hq; omega))
      clear d1 d2 f1 f2 t0 B3 B4 T4 hb3 hg4 F3 c0 c1 c2 e0
      go_wp2
      go_ret
      exact ⟨by rw [hend.out]; first | rfl | (congr 2; simp [BEq.beq]) | simp, HG4.out⟩

end Go.Proofs.YtgjbebfcbpfngaaDoor

/- What ReadNote of impl/l06_wire.go answers: its contract. -/
namespace Go.Proofs.YtgjbebfcbpfngaaDoor
open Go.RowKit Go.Deep

/-- What ReadNote leaves. -/
def Reads (w : World) (s l c sh : Int) (zs bs : List Int) (e : Ending) (w' : World) : Prop :=
  Below w.heap.size w w' ∧
  ((okR s l c sh zs bs = true ∧ ∃ (g1 g2 n1 n2 : Nat), e = .returned (.tuple #[.agg (noteA (rdNote bs).1 (.slice (some ⟨g1, 0, none⟩) n1 n1) (.slice (some ⟨g2, 0, none⟩) n2 n2)), .bool true]) ∧ (rdNote bs).2.1.length = n1 ∧ (rdNote bs).2.2.1.length = n2 ∧ w.heap.size ≤ g1 ∧ w.heap.size ≤ g2 ∧ g1 ≠ g2 ∧ Held w' g1 (rdNote bs).2.1 ∧ Held w' g2 (rdNote bs).2.2.1) ∨
   (okR s l c sh zs bs = false ∧ e = .returned (.tuple #[.agg ZN, .bool false])))

set_option maxRecDepth 100000 in
set_option maxHeartbeats 8000000 in
theorem readNote_is (aE aM aS aL : Addr) (B : Nat) (s l c sh : Int) (A : Option Addr) (n cap : Nat) (zs : List Int) (P : Option Addr) (m pc : Nat) (bs : List Int) (w : World) (hE : Errs w B aE aM aS aL) (hBw : B ≤ w.heap.size) (hm : n ≤ maxLen) (hr : Row w w.heap.size A n zs) (hb : BRow w w.heap.size P m bs) (hB : Bys bs) (hx : m ≤ maxLen) (hcap : m ≤ pc) :
    Calls Tryd.prog 11 #[.agg #[.int .i64 s, .int .i64 l, .int .i64 c, .int .i64 sh, .slice A n cap], .slice P m pc] w (Reads w s l c sh zs bs) := by
  have G0 := ((Box.new w 26 #[.int .i64 s, .int .i64 l, .int .i64 c, .int .i64 sh, .slice A n cap]).alloc (.cells ZN 31)).alloc (.cells #[.slice P m pc, .int .i64 0, .nilIface] 71)
  have Z0 := (Box.new (w.alloc (.cells #[.int .i64 s, .int .i64 l, .int .i64 c, .int .i64 sh, .slice A n cap] 26)) 31 ZN).alloc (.cells #[.slice P m pc, .int .i64 0, .nilIface] 71)
  have C0 := Box.new ((w.alloc (.cells #[.int .i64 s, .int .i64 l, .int .i64 c, .int .i64 sh, .slice A n cap] 26)).alloc (.cells ZN 31)) 71 #[.slice P m pc, .int .i64 0, .nilIface]
  simp only [World.size_alloc] at Z0 C0
  have E0 := bel_trans (bel_trans (bel_alloc w (.cells #[.int .i64 s, .int .i64 l, .int .i64 c, .int .i64 sh, .slice A n cap] 26)) (bel_alloc _ (.cells ZN 31))) (bel_alloc _ (.cells #[.slice P m pc, .int .i64 0, .nilIface] 71))
  have R0 := Lib.hid (hE.later E0 hBw)
  have K0 : Hid (Cu _ w.heap.size (w.heap.size + 1 + 1) aE aM aS aL 0 (some bs)) := Lib.hid ⟨hB, P, m, pc, C0, hb.below E0 (Nat.le_refl _), hcap, hx⟩
  have HR := Lib.hid hr
  have HM := Lib.hid hm
  have HB := Lib.hid hB
  have hs0 : w.heap.size ≤ (((w.alloc (.cells #[.int .i64 s, .int .i64 l, .int .i64 c, .int .i64 sh, .slice A n cap] 26)).alloc (.cells ZN 31)).alloc (.cells #[.slice P m pc, .int .i64 0, .nilIface] 71)).heap.size := E0.size
  clear hE hr hb hB hx hm C0
  go_enter Tryd.func11, Tryd.ntmps11
  go_upto_region 2 with fail
  rw [show (#[.int .i64 0, .int .i64 0, .int .i64 0, .int .i64 0, .int .i64 0, .int .i64 0, .int .i64 0, .int .i64 0, .int .i64 0, .int .i64 0, .int .i64 0, .slice none 0 0, .slice none 0 0, .int .i64 0, .int .i64 0, .int .i64 0] : Array Value) = ZN from rfl]
  generalize (((w.alloc _).alloc _).alloc _ : World) = w0 at G0 Z0 E0 R0 K0 hs0 ⊢
  have hc0 := K0.out.lt
  go_wp2_with fail
  refine (note_is aE aM aS aL B w.heap.size (w.heap.size + 1 + 1) bs w0 R0.out (by omega) (by omega) (by omega) K0.out HB.out).mono ?_
  rintro e w1 ⟨k, U, V, un, vn, ps, qs, rfl, hps, hqs, hk0, hk1, K1, Lu, Lv, hap, hg⟩
  have R1 := R0.out.kept hg (by omega) (by omega)
  have G1 := G0.kept hg (by intro e; injection e with e; omega)
  have Z1 := Z0.kept hg (by intro e; injection e with e; omega)
  have E1 := bel_grown E0 hg (by omega)
  have hs1 := hg.size
  have hz1 := Z1.lt
  have hcc := K1.lt
  have sh1 := noteA_shape (rdNote bs).1 (.slice U un un) (.slice V vn vn)
  obtain ⟨N, hN⟩ : ∃ N, N = noteA (rdNote bs).1 (.slice U un un) (.slice V vn vn) := ⟨_, rfl⟩
  rw [← hN] at sh1 ⊢
  have HI := Lib.hid sh1.info
  have HS := Lib.hid (show ZN.size = N.size from sh1.size.symm)
  have H1 := Lib.hid (sh1.one rfl rfl)
  replace hN := Lib.hid hN
  clear R0 G0 Z0 E0 K0 hg
  have F := bel_setRow (bel_alloc w1 (.cells ZN 31)) (Nat.le_refl _) N
  have N2 := (Box.new w1 31 ZN).setRow N
  have R2 := Lib.hid (R1.later F (by have := E1.size; omega))
  have G2 := G1.later F G1.lt
  have Z2 := Z1.later F Z1.lt
  have E2 := bel_trans E1 F
  have K2 := Lib.hid (K1.later F (by omega))
  have Lu2 := Lu.later F
  have Lv2 := Lv.later F
  have hs2 := F.size
  clear R1 G1 Z1 E1 K1 Lu Lv F
  go_upto_region 3 with (refine wpList_store_row rfl 31 _ _ rfl w1.heap.size N rfl rfl 31 ZN (heap_alloc_new w1 _) HI.out HS.out H1.out ?_)
  rw [show (w1.alloc (.cells #[.int .i64 0, .int .i64 0, .int .i64 0, .int .i64 0, .int .i64 0, .int .i64 0, .int .i64 0, .int .i64 0, .int .i64 0, .int .i64 0, .int .i64 0, .slice none 0 0, .slice none 0 0, .int .i64 0, .int .i64 0, .int .i64 0] 31)) = w1.alloc (.cells ZN 31) from rfl]
  generalize ((w1.alloc _).setRow _ _ : World) = w2 at N2 R2 G2 Z2 E2 K2 Lu2 Lv2 hs2 ⊢
  obtain ⟨S, hS⟩ : ∃ S, S = w1.heap.size := ⟨_, rfl⟩
  rw [← hS] at N2 hs1 hz1 hcc hs2 ⊢
  clear hS
  go_wp2_with fail
  refine (ended_is aE aM aS aL B w.heap.size (w.heap.size + 1 + 1) k (rdNote bs).2.2.2 w2 hk0 (by omega) R2.out (by omega) (by omega) (by omega) K2.out).mono ?_
  rintro e w3 ⟨rfl, hg3⟩
  have G3 := G2.kept hg3 (by intro e; injection e with e; omega)
  have Z3 := Z2.kept hg3 (by intro e; injection e with e; omega)
  have N3 := N2.kept hg3 (by intro e; injection e with e; omega)
  have E3 := bel_grown E2 hg3 (by omega)
  have hs3 := hg3.size
  have Lu3 := Lu2.kept hg3 (by omega)
  have Lv3 := Lv2.kept hg3 (by omega)
  replace hap := Lib.hid hap
  replace sh1 := Lib.hid sh1
  clear G2 Z2 N2 E2 R2 K2 Lu2 Lv2 hg3
  obtain ⟨ok, hok⟩ : ∃ ok, ok = okR s l c sh zs bs := ⟨_, rfl⟩
  have hok' : ok = (endB (rdNote bs).2.2.2 && ntX s l c sh zs (rdNote bs).1 (rdNote bs).2.1 (rdNote bs).2.2.1) := hok
  replace hok := Lib.hid hok
  rcases he : endB (rdNote bs).2.2.2 with _ | _
  · rw [he] at hok'
    replace hok' : Hid (ok = false) := Lib.hid (by simpa using hok')
    replace he := Lib.hid he
    have HZ := Lib.hid Z3
    have HK := Lib.hid (Z3.setRow ZN)
    have HE := Lib.hid (bel_setRow E3 (g := w.heap.size + 1) (by omega) ZN)
    clear Z3 G3 N3 E3 Lu3 Lv3
    go_wp2_with (refine wpList_store_row rfl 31 _ _ rfl (w.heap.size + 1) ZN rfl rfl 31 ZN HZ.out zn_info rfl zn_one ?_)
    exact bodyPost_ret (results_cell_tmp Tryd.results11 _ _ (w.heap.size + 1) 31 _ (.bool false) _ rfl rfl HK.out Tryd.underlying31 rfl zn_info) rfl ⟨HE.out, .inr ⟨by rw [← hok.out, hok'.out], rfl⟩⟩
  · rw [he] at hok'
    obtain ⟨b, hb⟩ : ∃ b, b = ntX s l c sh zs (rdNote bs).1 (rdNote bs).2.1 (rdNote bs).2.2.1 := ⟨_, rfl⟩
    rw [← hb] at hok'
    replace hok' : Hid (ok = b) := Lib.hid (by simpa using hok')
    replace he := Lib.hid he
    obtain ⟨g0, g1, g2, g3, g4⟩ := G3.five
    have HN := Lib.hid N3
    have hpu : Hid (Pairs w3 w3.heap.size U un ps) := Lib.hid Lu3.pairs
    have hpv : Hid (Pairs w3 w3.heap.size V vn qs) := Lib.hid Lv3.pairs
    have hul : Hid (un ≤ maxLen ∧ vn ≤ maxLen) := Lib.hid (by
      have a1 := hpu.out.1
      have a2 := hpv.out.1
      have b0 : SBys (some bs) := HB.out
      have a3 := askSeals_len (asks_bys 14 b0)
      have a4 := askSeals_len (askSeals_bys (asks_bys 14 b0))
      have a5 : ps.length ≤ 20 := by rw [hps.out]; exact a3
      have a6 : qs.length ≤ 20 := by rw [hqs.out]; exact a4
      unfold maxLen
      omega)
    have hrow : Hid (Row w3 w3.heap.size A n zs) := Lib.hid ((HR.out.below E3 (Nat.le_refl _)).more E3.size)
    go_wp2_with (refine wpList_load_box 31 _ rfl S rfl 31 N HN.out _ Tryd.underlying31 rfl HI.out (by simp [Region.wanted, yielded]) ?_)
    refine (noteN_is (hN.out.trans rfl) s l c sh A n cap zs ps qs w3 HM.out hul.out.1 hul.out.2 hrow.out hpu.out hpv.out).mono ?_
    rintro e w4 ⟨rfl, hb4⟩
    have hnt : Hid (ntB s l c sh zs (nth (rdNote bs).1 0) (nth (rdNote bs).1 1) (nth (rdNote bs).1 2) (nth (rdNote bs).1 3) (nth (rdNote bs).1 4) (nth (rdNote bs).1 5) (nth (rdNote bs).1 6) (nth (rdNote bs).1 7) (nth (rdNote bs).1 8) (nth (rdNote bs).1 9) (nth (rdNote bs).1 10) ps qs (nth (rdNote bs).1 11) (nth (rdNote bs).1 12) (nth (rdNote bs).1 13) = b) := Lib.hid (by rw [hb, hps.out, hqs.out]; rfl)
    rw [hnt.out]
    replace hb := Lib.hid hb
    have Z4 := Z3.later hb4 Z3.lt
    have N4 := Lib.hid (N3.later hb4 N3.lt)
    have E4 := bel_trans E3 hb4
    have Lu4 := Lu3.later hb4
    have Lv4 := Lv3.later hb4
    clear Z3 G3 N3 E3 Lu3 Lv3 g0 g1 g2 g3 g4 hpu hpv hrow hb4 HN
    rcases b with _ | _
    · have HZ := Lib.hid Z4
      have HK := Lib.hid (Z4.setRow ZN)
      have HE := Lib.hid (bel_setRow E4 (g := w.heap.size + 1) (by omega) ZN)
      clear Z4 E4 Lu4 Lv4
      go_wp2_with (refine wpList_store_row rfl 31 _ _ rfl (w.heap.size + 1) ZN rfl rfl 31 ZN HZ.out zn_info rfl zn_one ?_)
      exact bodyPost_ret (results_cell_tmp Tryd.results11 _ _ (w.heap.size + 1) 31 _ (.bool false) _ rfl rfl HK.out Tryd.underlying31 rfl zn_info) rfl ⟨HE.out, .inr ⟨by rw [← hok.out, hok'.out], rfl⟩⟩
    · have HZ := Lib.hid Z4
      have HK := Lib.hid (Z4.setRow N)
      have HE := Lib.hid (bel_setRow E4 (g := w.heap.size + 1) (by omega) N)
      have GR := grown_setRow (grown_refl w4 (some (w.heap.size + 1))) N
      have hLu := Lib.hid (Lu4.kept GR (by omega))
      have hLv := Lib.hid (Lv4.kept GR (by omega))
      clear Z4 E4 Lu4 Lv4 GR
      go_wp2_with (first | (refine wpList_load_box 31 _ rfl S rfl 31 N N4.out _ Tryd.underlying31 rfl HI.out (by simp [Region.wanted, yielded]) ?_) | (refine wpList_store_row rfl 31 _ _ rfl (w.heap.size + 1) N rfl rfl 31 ZN HZ.out HI.out HS.out H1.out ?_))
      refine bodyPost_ret (results_cell_tmp Tryd.results11 _ _ (w.heap.size + 1) 31 _ (.bool true) _ rfl rfl HK.out Tryd.underlying31 rfl HI.out) rfl ⟨HE.out, .inl ⟨by rw [← hok.out, hok'.out], ?_⟩⟩
      have hne : (rdNote bs).2.2.2 ≠ none := by intro e; have := he.out; rw [e] at this; cases this
      rcases hLu.out with ⟨_, _, hbad⟩ | ⟨g1, n1, e1, e2, e3, e4⟩
      · exact absurd hbad hne
      rcases hLv.out with ⟨_, _, hbad⟩ | ⟨g2, n2, f1, f2, f3, f4⟩
      · exact absurd hbad hne
      cases e1
      cases f1
      refine ⟨g1, g2, un, vn, by rw [hN.out], by rw [← hps.out]; exact e2, by rw [← hqs.out]; exact f2, by omega, by omega, hap.out g1 g2 rfl rfl, by rw [← hps.out]; exact e4, by rw [← hqs.out]; exact f4⟩

end Go.Proofs.YtgjbebfcbpfngaaDoor
