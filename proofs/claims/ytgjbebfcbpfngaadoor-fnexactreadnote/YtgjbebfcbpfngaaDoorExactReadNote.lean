/- FnExactReadNote: at every group and bytes the program answers as its model and leaves its arguments alone: the law answers true; no condition beyond the given row's own. The card. -/
import Derived.Test.YtgjbebfcbpfngaaDoorWire9
import Derived.Test.YtgjbebfcbpfngaaDoorWireAs
import Derived.Test.YtgjbebfcbpfngaaDoorWireSpec
import Derived.Test.YtgjbebfcbpfngaaDoorAfter
import Derived.Deep.RegionLaw
import Derived.Test.YtgjbebfcbpfngaaDoorNote4
import Derived.Test.YtgjbebfcbpfngaaDoorCopies
import Derived.Test.YtgjbebfcbpfngaaDoorDraw
import Derived.Test.YtgjbebfcbpfngaaDoorSpecWire5
import Derived.Test.YtgjbebfcbpfngaaDoorLawsAnswer
import Derived.Test.YtgjbebfcbpfngaaDoorCopiesBytes
import Derived.Test.YtgjbebfcbpfngaaDoorRows
import Derived.Test.YtgjbebfcbpfngaaDoorWire5
import Derived.LaidLaws
import Derived.LaidHandle
import Derived.Stop.LaidTwo
import Derived.Stop.LaidErr
import Derived.RowKitTokens
import Derived.Test.YtgjbebfcbpfngaaDoorWireRead
import Derived.WalkKit
import Derived.ProofKit
import Derived.OpenShut
import Derived.ShutString
import Derived.ChangeOld
import Derived.ChangeSame
import Derived.ChangeVars
import Derived.JoinedOf
import Derived.RowKit
import Derived.Stop.Joined
import Derived.Below
import Derived.Carry
import Derived.Laws.Rows
import Derived.Test.YtgjbebfcbpfngaaDoorBase
import Derived.Test.YtgjbebfcbpfngaaDoorChecked
import Derived.Deep.Fields
import Derived.Test.YtgjbebfcbpfngaaDoorCards
import Derived.Test.YtgjbebfcbpfngaaDoorTie
import Derived.SevenTiedAt

/- What ended of a cursor of impl/l06_wire.go answers: its contract. -/
namespace Go.Proofs.YtgjbebfcbpfngaaDoor
open Go.RowKit Go.Deep

/-- What the last number that is asked for leaves. -/
def LastNum (w : World) (c : Nat) (aE aM aS aL : Addr) (k : Int) (s : Option (List Int)) (e : Ending) (w' : World) : Prop :=
  ∃ (x : Int) (A : Option Addr) (n cap : Nat) (err : Value), e = .returned (.int .i64 x) ∧ Box w' c 71 #[.slice A n cap, .int .i64 (k + 1), err] ∧ w.grownBy w' (some c) ∧
    ((err = .nilIface ∧ endB s = false) ∨ ∃ (j : Int) (a : Addr), err = .iface 100 (.agg #[.int .i64 j, .iface 154 (.pointer (some a))]) ∧ (((a = aM ∨ a = aS ∨ a = aL) ∧ endB s = false) ∨ (a = aE ∧ endB s = decide (j = k + 1))))
theorem number_last (aE aM aS aL : Addr) (B C c : Nat) (k : Int) (s : Option (List Int)) (w : World) (hk0 : 0 ≤ k) (hk1 : k ≤ 100000) (hE : Errs w B aE aM aS aL) (hBc : B ≤ c) (hCc : C ≤ c) (h : Cu w C c aE aM aS aL k s) :
    Calls Tryd.prog 78 #[.pointer (some ⟨c, 0, none⟩)] w (LastNum w c aE aM aS aL k s) := by
  cases s with
  | none =>
    obtain ⟨A, n, cap, j, a, hb, hj, ha⟩ := h
    refine (number_bad c A n cap k j a w hk0 hk1 hb).mono ?_
    rintro e w' ⟨rfl, hb', hg⟩
    refine ⟨0, A, n, cap, _, rfl, hb', hg, .inr ⟨j, a, rfl, ?_⟩⟩
    rcases ha with rfl | ha
    · exact .inr ⟨rfl, by simp [endB]; omega⟩
    · exact .inl ⟨ha, rfl⟩
  | some r =>
    obtain ⟨hB, A, n, cap, hb, hr, hcap, hx⟩ := h
    cases e : num r with
    | none =>
      refine (number_no aE aM aS aL B C c A n cap k r w hk0 hk1 hE hBc hr hCc hB hx hcap hb e).mono ?_
      rintro e' w' ⟨rfl, a, hb', ha, hg⟩
      refine ⟨0, A, n, cap, _, rfl, hb', hg, .inr ⟨k + 1, a, rfl, ?_⟩⟩
      rcases ha with ⟨rfl, rfl⟩ | ⟨hne, ha⟩
      · exact .inr ⟨rfl, by simp [endB]⟩
      · refine .inl ⟨?_, ?_⟩
        · rcases ha with rfl | rfl
          · exact .inr (.inl rfl)
          · exact .inr (.inr rfl)
        · cases r with
          | nil => exact absurd rfl hne
          | cons z r => rfl
    | some p =>
      obtain ⟨x, j⟩ := p
      refine (number_yes aE aM aS aL B C c A n cap k r w x j hk0 hk1 hE hBc hr hCc hB hx hcap hb e).mono ?_
      rintro e' w' ⟨rfl, A', n', cap', hb', hr', hc', hx', hg⟩
      refine ⟨x, A', n', cap', _, rfl, hb', hg, .inl ⟨rfl, ?_⟩⟩
      cases r with
      | nil => simp [num, numF] at e
      | cons z r => rfl

/-- What ended leaves. -/
def IsEnd (w : World) (c : Nat) (b : Bool) (e : Ending) (w' : World) : Prop := e = .returned (.bool b) ∧ w.grownBy w' (some c)

set_option maxRecDepth 100000 in
set_option maxHeartbeats 4000000 in
theorem ended_is (aE aM aS aL : Addr) (B C c : Nat) (k : Int) (s : Option (List Int)) (w : World) (hk0 : 0 ≤ k) (hk1 : k ≤ 100000) (hE : Errs w B aE aM aS aL) (hBw : B ≤ w.heap.size) (hBc : B ≤ c) (hCc : C ≤ c) (h : Cu w C c aE aM aS aL k s) :
    Calls Tryd.prog 45 #[.pointer (some ⟨c, 0, none⟩)] w (IsEnd w c (endB s)) := by
  have HE := Lib.hid hE
  have HC := Lib.hid h
  clear hE h
  go_enter Tryd.func45, Tryd.ntmps45
  go_wp2_with fail
  refine (number_last aE aM aS aL B C c k s w hk0 hk1 HE.out hBc hCc HC.out).mono ?_
  rintro e w1 ⟨x, A, n, cap, err, rfl, hb, hg, hcase⟩
  have E1 := HE.out.kept hg (by omega) hBc
  have hs1 := hg.size
  have F := bel_alloc w1 (.cells #[.int .i64 0, .nilIface] 100)
  have E2 := E1.later F (by omega)
  have hb2 := hb.later F hb.lt
  have T2 := Box.new w1 100 #[.int .i64 0, .nilIface]
  have G2 := grown_trans hg (grown_bel F (some c))
  have hcl := hb.lt
  clear E1 hb hg
  rcases hcase with ⟨rfl, hend⟩ | ⟨j, a, rfl, ⟨ha, hend⟩ | ⟨rfl, hend⟩⟩
  · replace hend := Lib.hid hend
    go_wp2_with fail
    generalize (w1.alloc _ : World) = w2 at F E2 hb2 T2 G2 ⊢
    generalize w1.heap.size = T at T2 hcl hs1 ⊢
    obtain ⟨c0, c1, c2⟩ := hb2.three
    have a2 := After.cell (by exact hb2.lt) c2
    have e0 := After.cell (w := w2) (a := ⟨0, 0, none⟩) (by have := E2.lt; have := T2.lt; show 0 < w2.heap.size; omega) E2.e0
    have HG := Lib.hid G2
    clear G2 F E2 T2 hb2 c0 c1 c2
    refine wp_region_after (by kernel_rfl) (by kernel_rfl) ?_
    repeat (first | go_big_quiet_step ((go_at_call 79; exact after_of (is_nil aE _))) | quiet_step ((go_at_call 79; exact after_of (is_nil aE _))))
    refine wpQuiet_nil ?_
    intro pw
    go_wp2
    go_ret
    exact ⟨by rw [hend.out]; rfl, grown_trans HG.out (grown_bel pw.bel _)⟩
  · replace hend := Lib.hid hend
    go_wp2_with fail
    generalize (w1.alloc _ : World) = w2 at F E2 hb2 T2 G2 ⊢
    generalize w1.heap.size = T at T2 hcl hs1 ⊢
    obtain ⟨c0, c1, c2⟩ := hb2.three
    have a2 := After.cell (by exact hb2.lt) c2
    have hl := E2.lt
    have hB2 : B ≤ w2.heap.size := by have := T2.lt; omega
    have e0 := After.cell (w := w2) (a := ⟨0, 0, none⟩) (by show 0 < w2.heap.size; omega) E2.e0
    have hne : a ≠ aE := by
      rcases ha with rfl | rfl | rfl
      · exact E2.nM
      · exact E2.nS
      · exact E2.nL
    obtain ⟨ca, ta, hha⟩ : ∃ c t, w2.heap[a.block]? = some (.cells c t (0, 0)) := by
      rcases ha with rfl | rfl | rfl
      · exact E2.hM
      · exact E2.hS
      · exact E2.hL
    obtain ⟨ce, te, hhe⟩ := E2.hE
    have la : a.block < w2.heap.size := by
      rcases ha with rfl | rfl | rfl <;> omega
    have HIS := Lib.hid (fun (p : After w2) => is_fault_other j a aE ca ce ta te p.x hne ((p.bel.block _ la).trans hha) ((p.bel.block _ (by omega)).trans hhe))
    have HG := Lib.hid G2
    clear G2 F E2 T2 hb2 c0 c1 c2 hha hhe
    refine wp_region_after (by kernel_rfl) (by kernel_rfl) ?_
    repeat (first | go_big_quiet_step ((go_at_call 79; exact after_of (HIS.out _))) | quiet_step ((go_at_call 79; exact after_of (HIS.out _))))
    refine wpQuiet_nil ?_
    intro pw
    go_wp2
    go_ret
    exact ⟨by rw [hend.out]; rfl, grown_trans HG.out (grown_bel pw.bel _)⟩
  · replace hend := Lib.hid hend
    go_wp2_with fail
    generalize (w1.alloc _ : World) = w2 at F E2 hb2 T2 G2 ⊢
    generalize w1.heap.size = T at T2 hcl hs1 ⊢
    obtain ⟨c0, c1, c2⟩ := hb2.three
    have e0 := E2.e0
    have hT2 := T2.lt
    have hl := E2.lt
    have E2' := Lib.hid E2
    have T2' := Lib.hid T2
    have HB := Lib.hid hb2
    have HG := Lib.hid G2
    clear E2 T2 hb2 G2 F
    go_region_law (first
      | (go_simp; go_at_call 79; (with_reducible refine (is_fault_same j a _).mono ?_); rintro e w3 ⟨rfl, hb3⟩; have F3 := bel_drew' hb3; have B3 := HB.out.later F3 HB.out.lt; have T3 := T2'.out.later F3 T2'.out.lt; have d1 := B3.cell 1; have d2 := B3.cell 2; have g2 := Lib.hid (E2'.out.later F3 (by omega)).e2; replace T3 := Lib.hid T3)
      | (go_simp; go_at_call 80; refine (as_fault j a T (.int .i64 0) .nilIface _ g2.out T3.out).mono ?_; rintro e w4 ⟨rfl, T4, hg4⟩; have B4 := B3.kept hg4 (by intro e; injection e with e; omega); have f1 := B4.cell 1; have f2 := B4.cell 2; have t0 := T4.cell 0))
    all_goals
      have HG4 := Lib.hid (grown_far (grown_trans HG.out (grown_bel F3 (some c))) hg4 (fun q hq => by injection hq with hq; omega))
      clear d1 d2 f1 f2 t0 B3 B4 T4 hb3 hg4 F3 c0 c1 c2 e0
      go_wp2
      go_ret
      exact ⟨by rw [hend.out]; first | rfl | (congr 2; simp [BEq.beq]) | simp, HG4.out⟩

end Go.Proofs.YtgjbebfcbpfngaaDoor

/- What ReadNote of impl/l06_wire.go answers: its contract. -/
namespace Go.Proofs.YtgjbebfcbpfngaaDoor
open Go.RowKit Go.Deep

/-- What ReadNote leaves. -/
def Reads (w : World) (s l c sh : Int) (zs bs : List Int) (e : Ending) (w' : World) : Prop :=
  Below w.heap.size w w' ∧
  ((okR s l c sh zs bs = true ∧ ∃ (g1 g2 n1 n2 : Nat), e = .returned (.tuple #[.agg (noteA (rdNote bs).1 (.slice (some ⟨g1, 0, none⟩) n1 n1) (.slice (some ⟨g2, 0, none⟩) n2 n2)), .bool true]) ∧ (rdNote bs).2.1.length = n1 ∧ (rdNote bs).2.2.1.length = n2 ∧ w.heap.size ≤ g1 ∧ w.heap.size ≤ g2 ∧ g1 ≠ g2 ∧ Held w' g1 (rdNote bs).2.1 ∧ Held w' g2 (rdNote bs).2.2.1) ∨
   (okR s l c sh zs bs = false ∧ e = .returned (.tuple #[.agg ZN, .bool false])))

set_option maxRecDepth 100000 in
set_option maxHeartbeats 8000000 in
theorem readNote_is (aE aM aS aL : Addr) (B : Nat) (s l c sh : Int) (A : Option Addr) (n cap : Nat) (zs : List Int) (P : Option Addr) (m pc : Nat) (bs : List Int) (w : World) (hE : Errs w B aE aM aS aL) (hBw : B ≤ w.heap.size) (hm : n ≤ maxLen) (hr : Row w w.heap.size A n zs) (hb : BRow w w.heap.size P m bs) (hB : Bys bs) (hx : m ≤ maxLen) (hcap : m ≤ pc) :
    Calls Tryd.prog 11 #[.agg #[.int .i64 s, .int .i64 l, .int .i64 c, .int .i64 sh, .slice A n cap], .slice P m pc] w (Reads w s l c sh zs bs) := by
  have G0 := ((Box.new w 26 #[.int .i64 s, .int .i64 l, .int .i64 c, .int .i64 sh, .slice A n cap]).alloc (.cells ZN 31)).alloc (.cells #[.slice P m pc, .int .i64 0, .nilIface] 71)
  have Z0 := (Box.new (w.alloc (.cells #[.int .i64 s, .int .i64 l, .int .i64 c, .int .i64 sh, .slice A n cap] 26)) 31 ZN).alloc (.cells #[.slice P m pc, .int .i64 0, .nilIface] 71)
  have C0 := Box.new ((w.alloc (.cells #[.int .i64 s, .int .i64 l, .int .i64 c, .int .i64 sh, .slice A n cap] 26)).alloc (.cells ZN 31)) 71 #[.slice P m pc, .int .i64 0, .nilIface]
  simp only [World.size_alloc] at Z0 C0
  have E0 := bel_trans (bel_trans (bel_alloc w (.cells #[.int .i64 s, .int .i64 l, .int .i64 c, .int .i64 sh, .slice A n cap] 26)) (bel_alloc _ (.cells ZN 31))) (bel_alloc _ (.cells #[.slice P m pc, .int .i64 0, .nilIface] 71))
  have R0 := Lib.hid (hE.later E0 hBw)
  have K0 : Hid (Cu _ w.heap.size (w.heap.size + 1 + 1) aE aM aS aL 0 (some bs)) := Lib.hid ⟨hB, P, m, pc, C0, hb.below E0 (Nat.le_refl _), hcap, hx⟩
  have HR := Lib.hid hr
  have HM := Lib.hid hm
  have HB := Lib.hid hB
  have hs0 : w.heap.size ≤ (((w.alloc (.cells #[.int .i64 s, .int .i64 l, .int .i64 c, .int .i64 sh, .slice A n cap] 26)).alloc (.cells ZN 31)).alloc (.cells #[.slice P m pc, .int .i64 0, .nilIface] 71)).heap.size := E0.size
  clear hE hr hb hB hx hm C0
  go_enter Tryd.func11, Tryd.ntmps11
  go_upto_region 2 with fail
  rw [show (#[.int .i64 0, .int .i64 0, .int .i64 0, .int .i64 0, .int .i64 0, .int .i64 0, .int .i64 0, .int .i64 0, .int .i64 0, .int .i64 0, .int .i64 0, .slice none 0 0, .slice none 0 0, .int .i64 0, .int .i64 0, .int .i64 0] : Array Value) = ZN from rfl]
  generalize (((w.alloc _).alloc _).alloc _ : World) = w0 at G0 Z0 E0 R0 K0 hs0 ⊢
  have hc0 := K0.out.lt
  go_wp2_with fail
  refine (note_is aE aM aS aL B w.heap.size (w.heap.size + 1 + 1) bs w0 R0.out (by omega) (by omega) (by omega) K0.out HB.out).mono ?_
  rintro e w1 ⟨k, U, V, un, vn, ps, qs, rfl, hps, hqs, hk0, hk1, K1, Lu, Lv, hap, hg⟩
  have R1 := R0.out.kept hg (by omega) (by omega)
  have G1 := G0.kept hg (by intro e; injection e with e; omega)
  have Z1 := Z0.kept hg (by intro e; injection e with e; omega)
  have E1 := bel_grown E0 hg (by omega)
  have hs1 := hg.size
  have hz1 := Z1.lt
  have hcc := K1.lt
  have sh1 := noteA_shape (rdNote bs).1 (.slice U un un) (.slice V vn vn)
  obtain ⟨N, hN⟩ : ∃ N, N = noteA (rdNote bs).1 (.slice U un un) (.slice V vn vn) := ⟨_, rfl⟩
  rw [← hN] at sh1 ⊢
  have HI := Lib.hid sh1.info
  have HS := Lib.hid (show ZN.size = N.size from sh1.size.symm)
  have H1 := Lib.hid (sh1.one rfl rfl)
  replace hN := Lib.hid hN
  clear R0 G0 Z0 E0 K0 hg
  have F := bel_setRow (bel_alloc w1 (.cells ZN 31)) (Nat.le_refl _) N
  have N2 := (Box.new w1 31 ZN).setRow N
  have R2 := Lib.hid (R1.later F (by have := E1.size; omega))
  have G2 := G1.later F G1.lt
  have Z2 := Z1.later F Z1.lt
  have E2 := bel_trans E1 F
  have K2 := Lib.hid (K1.later F (by omega))
  have Lu2 := Lu.later F
  have Lv2 := Lv.later F
  have hs2 := F.size
  clear R1 G1 Z1 E1 K1 Lu Lv F
  go_upto_region 3 with (refine wpList_store_row rfl 31 _ _ rfl w1.heap.size N rfl rfl 31 ZN (heap_alloc_new w1 _) HI.out HS.out H1.out ?_)
  rw [show (w1.alloc (.cells #[.int .i64 0, .int .i64 0, .int .i64 0, .int .i64 0, .int .i64 0, .int .i64 0, .int .i64 0, .int .i64 0, .int .i64 0, .int .i64 0, .int .i64 0, .slice none 0 0, .slice none 0 0, .int .i64 0, .int .i64 0, .int .i64 0] 31)) = w1.alloc (.cells ZN 31) from rfl]
  generalize ((w1.alloc _).setRow _ _ : World) = w2 at N2 R2 G2 Z2 E2 K2 Lu2 Lv2 hs2 ⊢
  obtain ⟨S, hS⟩ : ∃ S, S = w1.heap.size := ⟨_, rfl⟩
  rw [← hS] at N2 hs1 hz1 hcc hs2 ⊢
  clear hS
  go_wp2_with fail
  refine (ended_is aE aM aS aL B w.heap.size (w.heap.size + 1 + 1) k (rdNote bs).2.2.2 w2 hk0 (by omega) R2.out (by omega) (by omega) (by omega) K2.out).mono ?_
  rintro e w3 ⟨rfl, hg3⟩
  have G3 := G2.kept hg3 (by intro e; injection e with e; omega)
  have Z3 := Z2.kept hg3 (by intro e; injection e with e; omega)
  have N3 := N2.kept hg3 (by intro e; injection e with e; omega)
  have E3 := bel_grown E2 hg3 (by omega)
  have hs3 := hg3.size
  have Lu3 := Lu2.kept hg3 (by omega)
  have Lv3 := Lv2.kept hg3 (by omega)
  replace hap := Lib.hid hap
  replace sh1 := Lib.hid sh1
  clear G2 Z2 N2 E2 R2 K2 Lu2 Lv2 hg3
  obtain ⟨ok, hok⟩ : ∃ ok, ok = okR s l c sh zs bs := ⟨_, rfl⟩
  have hok' : ok = (endB (rdNote bs).2.2.2 && ntX s l c sh zs (rdNote bs).1 (rdNote bs).2.1 (rdNote bs).2.2.1) := hok
  replace hok := Lib.hid hok
  rcases he : endB (rdNote bs).2.2.2 with _ | _
  · rw [he] at hok'
    replace hok' : Hid (ok = false) := Lib.hid (by simpa using hok')
    replace he := Lib.hid he
    have HZ := Lib.hid Z3
    have HK := Lib.hid (Z3.setRow ZN)
    have HE := Lib.hid (bel_setRow E3 (g := w.heap.size + 1) (by omega) ZN)
    clear Z3 G3 N3 E3 Lu3 Lv3
    go_wp2_with (refine wpList_store_row rfl 31 _ _ rfl (w.heap.size + 1) ZN rfl rfl 31 ZN HZ.out zn_info rfl zn_one ?_)
    exact bodyPost_ret (results_cell_tmp Tryd.results11 _ _ (w.heap.size + 1) 31 _ (.bool false) _ rfl rfl HK.out Tryd.underlying31 rfl zn_info) rfl ⟨HE.out, .inr ⟨by rw [← hok.out, hok'.out], rfl⟩⟩
  · rw [he] at hok'
    obtain ⟨b, hb⟩ : ∃ b, b = ntX s l c sh zs (rdNote bs).1 (rdNote bs).2.1 (rdNote bs).2.2.1 := ⟨_, rfl⟩
    rw [← hb] at hok'
    replace hok' : Hid (ok = b) := Lib.hid (by simpa using hok')
    replace he := Lib.hid he
    obtain ⟨g0, g1, g2, g3, g4⟩ := G3.five
    have HN := Lib.hid N3
    have hpu : Hid (Pairs w3 w3.heap.size U un ps) := Lib.hid Lu3.pairs
    have hpv : Hid (Pairs w3 w3.heap.size V vn qs) := Lib.hid Lv3.pairs
    have hul : Hid (un ≤ maxLen ∧ vn ≤ maxLen) := Lib.hid (by
      have a1 := hpu.out.1
      have a2 := hpv.out.1
      have b0 : SBys (some bs) := HB.out
      have a3 := askSeals_len (asks_bys 14 b0)
      have a4 := askSeals_len (askSeals_bys (asks_bys 14 b0))
      have a5 : ps.length ≤ 20 := by rw [hps.out]; exact a3
      have a6 : qs.length ≤ 20 := by rw [hqs.out]; exact a4
      unfold maxLen
      omega)
    have hrow : Hid (Row w3 w3.heap.size A n zs) := Lib.hid ((HR.out.below E3 (Nat.le_refl _)).more E3.size)
    go_wp2_with (refine wpList_load_box 31 _ rfl S rfl 31 N HN.out _ Tryd.underlying31 rfl HI.out (by simp [Region.wanted, yielded]) ?_)
    refine (noteN_is (hN.out.trans rfl) s l c sh A n cap zs ps qs w3 HM.out hul.out.1 hul.out.2 hrow.out hpu.out hpv.out).mono ?_
    rintro e w4 ⟨rfl, hb4⟩
    have hnt : Hid (ntB s l c sh zs (nth (rdNote bs).1 0) (nth (rdNote bs).1 1) (nth (rdNote bs).1 2) (nth (rdNote bs).1 3) (nth (rdNote bs).1 4) (nth (rdNote bs).1 5) (nth (rdNote bs).1 6) (nth (rdNote bs).1 7) (nth (rdNote bs).1 8) (nth (rdNote bs).1 9) (nth (rdNote bs).1 10) ps qs (nth (rdNote bs).1 11) (nth (rdNote bs).1 12) (nth (rdNote bs).1 13) = b) := Lib.hid (by rw [hb, hps.out, hqs.out]; rfl)
    rw [hnt.out]
    replace hb := Lib.hid hb
    have Z4 := Z3.later hb4 Z3.lt
    have N4 := Lib.hid (N3.later hb4 N3.lt)
    have E4 := bel_trans E3 hb4
    have Lu4 := Lu3.later hb4
    have Lv4 := Lv3.later hb4
    clear Z3 G3 N3 E3 Lu3 Lv3 g0 g1 g2 g3 g4 hpu hpv hrow hb4 HN
    rcases b with _ | _
    · have HZ := Lib.hid Z4
      have HK := Lib.hid (Z4.setRow ZN)
      have HE := Lib.hid (bel_setRow E4 (g := w.heap.size + 1) (by omega) ZN)
      clear Z4 E4 Lu4 Lv4
      go_wp2_with (refine wpList_store_row rfl 31 _ _ rfl (w.heap.size + 1) ZN rfl rfl 31 ZN HZ.out zn_info rfl zn_one ?_)
      exact bodyPost_ret (results_cell_tmp Tryd.results11 _ _ (w.heap.size + 1) 31 _ (.bool false) _ rfl rfl HK.out Tryd.underlying31 rfl zn_info) rfl ⟨HE.out, .inr ⟨by rw [← hok.out, hok'.out], rfl⟩⟩
    · have HZ := Lib.hid Z4
      have HK := Lib.hid (Z4.setRow N)
      have HE := Lib.hid (bel_setRow E4 (g := w.heap.size + 1) (by omega) N)
      have GR := grown_setRow (grown_refl w4 (some (w.heap.size + 1))) N
      have hLu := Lib.hid (Lu4.kept GR (by omega))
      have hLv := Lib.hid (Lv4.kept GR (by omega))
      clear Z4 E4 Lu4 Lv4 GR
      go_wp2_with (first | (refine wpList_load_box 31 _ rfl S rfl 31 N N4.out _ Tryd.underlying31 rfl HI.out (by simp [Region.wanted, yielded]) ?_) | (refine wpList_store_row rfl 31 _ _ rfl (w.heap.size + 1) N rfl rfl 31 ZN HZ.out HI.out HS.out H1.out ?_))
      refine bodyPost_ret (results_cell_tmp Tryd.results11 _ _ (w.heap.size + 1) 31 _ (.bool true) _ rfl rfl HK.out Tryd.underlying31 rfl HI.out) rfl ⟨HE.out, .inl ⟨by rw [← hok.out, hok'.out], ?_⟩⟩
      have hne : (rdNote bs).2.2.2 ≠ none := by intro e; have := he.out; rw [e] at this; cases this
      rcases hLu.out with ⟨_, _, hbad⟩ | ⟨g1, n1, e1, e2, e3, e4⟩
      · exact absurd hbad hne
      rcases hLv.out with ⟨_, _, hbad⟩ | ⟨g2, n2, f1, f2, f3, f4⟩
      · exact absurd hbad hne
      cases e1
      cases f1
      refine ⟨g1, g2, un, vn, by rw [hN.out], by rw [← hps.out]; exact e2, by rw [← hqs.out]; exact f2, by omega, by omega, hap.out g1 g2 rfl rfl, by rw [← hps.out]; exact e4, by rw [← hqs.out]; exact f4⟩

end Go.Proofs.YtgjbebfcbpfngaaDoor

/- The laws' own copies of a group whose keys can be written, and their marks: contracts of each of them. -/
namespace Go.Proofs.YtgjbebfcbpfngaaDoor
open Go.RowKit

/-- What a copy of n numbers leaves: a new row that holds them, and that can be written. -/
def MadeRowF (w : World) (n : Nat) (zs : List Int) (e : Ending) (w' : World) : Prop :=
  ∃ g, w.heap.size ≤ g ∧ e = .returned (.slice (some ⟨g, 0, none⟩) n n) ∧ Row w' w'.heap.size (some ⟨g, 0, none⟩) n zs ∧ (∀ i, w'.frozen? ⟨g, i, none⟩ = false) ∧ g < w'.heap.size ∧ Below w.heap.size w w'

set_option maxHeartbeats 400000 in
theorem toInts_fr (A : Option Addr) (n cap : Nat) (zs : List Int) (w : World) (hm : n ≤ 1048576) (hr : Row w w.heap.size A n zs) :
    Calls Tryd.prog 57 #[.slice A n cap] w (MadeRowF w n zs) := by
  have hmk := fun W => run_make_row' (P := Tryd.prog) 24 2 (.int .i64 0) 8 Tryd.underlying24 Tryd.infoInt64 rfl .i64 .i64 n (by omega) (by omega) W
  have HR := Lib.hid hr
  clear hr
  go_enter Tryd.func57, Tryd.ntmps57
  go_wp2_with fail
  go_loopw [4] (fun i wr => ∃ k : Nat, k ≤ n ∧ i = .int .i64 k ∧ wr.rowIs w.heap.size 2 n (upto zs k) ∧ Below w.heap.size w wr) (fun i _ => n - (intOf i).toNat)
  case atStart => exact ⟨0, Nat.zero_le _, rfl, (World.rowIs_made w (.int .i64 0) n 2).congr (fun i _ => by simp [upto]), bel_alloc _ _⟩
  case round =>
    obtain ⟨k, hk, rfl, hrow, hb⟩ := hrel
    by_cases hlt : k < n
    · obtain ⟨b, o, hA, hbB, hcell⟩ := HR.out.2 (by omega)
      subst hA
      have g := (hb.cell (p := ⟨b, o + k, none⟩) hbB).trans (hcell k hlt)
      have g1 := hrow.cell hlt
      have g2 := hrow.frozen k
      have HS := Lib.hid (upto_succ hrow)
      have HB := Lib.hid (hb.setCell (p := ⟨w.heap.size, k, none⟩) (Nat.le_refl _) (.int .i64 (nth zs k)))
      clear hcell hrow hb
      go_wp2
      go_roundw
      case rel => exact ⟨k + 1, by omega, by go_num, HS.out, HB.out⟩
      case measure => simp [intOf]; omega
    · have hkn : k = n := by omega
      subst hkn
      have hz := HR.out.1
      go_wp2
      go_ret
      exact ⟨_, Nat.le_refl _, rfl, ⟨hz, fun _ => ⟨_, _, rfl, hrow.lt, fun i hi => by rw [Nat.zero_add, hrow.cell hi]; simp [upto, hi]⟩⟩, fun i => hrow.frozen i, hrow.lt, hb⟩

/-- A copy of a group: the same numbers, new keys, which can be written. -/
def MadeGroupF (w : World) (s l c sh : Int) (n : Nat) (zs : List Int) (e : Ending) (w' : World) : Prop :=
  ∃ g, w.heap.size ≤ g ∧ e = .returned (.agg #[.int .i64 s, .int .i64 l, .int .i64 c, .int .i64 sh, .slice (some ⟨g, 0, none⟩) n n]) ∧ Row w' w'.heap.size (some ⟨g, 0, none⟩) n zs ∧ (∀ i, w'.frozen? ⟨g, i, none⟩ = false) ∧ g < w'.heap.size ∧ Below w.heap.size w w'

set_option maxHeartbeats 400000 in
theorem toGroup_fr (s l c sh : Int) (A : Option Addr) (n cap : Nat) (zs : List Int) (w : World) (hm : n ≤ 1048576) (hr : Row w w.heap.size A n zs) :
    Calls Tryd.prog 16 #[.agg #[.int .i64 s, .int .i64 l, .int .i64 c, .int .i64 sh, .slice A n cap]] w (MadeGroupF w s l c sh n zs) := by
  have HR := Lib.hid hr
  clear hr
  go_enter Tryd.func16, Tryd.ntmps16
  go_wp2_with fail
  have B0 := Box.new w 42 #[.int .i64 s, .int .i64 l, .int .i64 c, .int .i64 sh, .slice A n cap]
  have B1 := Box.new (w.alloc (.cells #[.int .i64 s, .int .i64 l, .int .i64 c, .int .i64 sh, .slice A n cap] 42)) 26 #[.int .i64 0, .int .i64 0, .int .i64 0, .int .i64 0, .slice none 0 0]
  have B2 := Box.new ((w.alloc (.cells #[.int .i64 s, .int .i64 l, .int .i64 c, .int .i64 sh, .slice A n cap] 42)).alloc (.cells #[.int .i64 0, .int .i64 0, .int .i64 0, .int .i64 0, .slice none 0 0] 26)) 26 #[.int .i64 s, .int .i64 l, .int .i64 c, .int .i64 sh, .slice none 0 0]
  have B1' := B1.alloc (.cells #[.int .i64 s, .int .i64 l, .int .i64 c, .int .i64 sh, .slice none 0 0] 26)
  clear B0 B1
  simp only [World.size_alloc] at B1' B2
  have hbW : Below w.heap.size w (((w.alloc (.cells #[.int .i64 s, .int .i64 l, .int .i64 c, .int .i64 sh, .slice A n cap] 42)).alloc (.cells #[.int .i64 0, .int .i64 0, .int .i64 0, .int .i64 0, .slice none 0 0] 26)).alloc (.cells #[.int .i64 s, .int .i64 l, .int .i64 c, .int .i64 sh, .slice none 0 0] 26)) := bel_trans (bel_trans (bel_alloc _ _) (bel_alloc _ _)) (bel_alloc _ _)
  generalize (((w.alloc _).alloc _).alloc _ : World) = W at B1' B2 hbW ⊢
  refine (toInts_fr A n cap zs W hm ((HR.out.below hbW (Nat.le_refl _)).more hbW.size)).mono ?_
  rintro e w1 ⟨g, hg, rfl, hrow, hfz, hgl, hb1⟩
  replace hgl := Lib.hid hgl
  replace hfz := Lib.hid hfz
  have C1 := B1'.later hb1 B1'.lt
  have C2 := B2.later hb1 B2.lt
  have hbw := bel_trans hbW hb1
  have c10 : w1.cell? ⟨w.heap.size + 1, 0, none⟩ = some (.int .i64 0) := C1.cell 0
  have c11 : w1.cell? ⟨w.heap.size + 1, 1, none⟩ = some (.int .i64 0) := C1.cell 1
  have c12 : w1.cell? ⟨w.heap.size + 1, 2, none⟩ = some (.int .i64 0) := C1.cell 2
  have c13 : w1.cell? ⟨w.heap.size + 1, 3, none⟩ = some (.int .i64 0) := C1.cell 3
  have c14 : w1.cell? ⟨w.heap.size + 1, 4, none⟩ = some (.slice none 0 0) := C1.cell 4
  have c20 : w1.cell? ⟨w.heap.size + 1 + 1, 0, none⟩ = some (.int .i64 s) := C2.cell 0
  have c21 : w1.cell? ⟨w.heap.size + 1 + 1, 1, none⟩ = some (.int .i64 l) := C2.cell 1
  have c22 : w1.cell? ⟨w.heap.size + 1 + 1, 2, none⟩ = some (.int .i64 c) := C2.cell 2
  have c23 : w1.cell? ⟨w.heap.size + 1 + 1, 3, none⟩ = some (.int .i64 sh) := C2.cell 3
  have c24 : w1.cell? ⟨w.heap.size + 1 + 1, 4, none⟩ = some (.slice none 0 0) := C2.cell 4
  have f1 : ∀ i, w1.frozen? ⟨w.heap.size + 1, i, none⟩ = false := fun i => C1.frozen i
  have f2 : ∀ i, w1.frozen? ⟨w.heap.size + 1 + 1, i, none⟩ = false := fun i => C2.frozen i
  have hg1 := B1'.lt
  have hg2 := B2.lt
  have HF := Lib.hid ((((((hrow.set (p := ⟨w.heap.size + 1 + 1, 4, none⟩) (by simp; omega) (.slice (some ⟨g, 0, none⟩) n n)).set (p := ⟨w.heap.size + 1, 0, none⟩) (by simp; omega) (.int .i64 s)).set (p := ⟨w.heap.size + 1, 1, none⟩) (by simp; omega) (.int .i64 l)).set
    (p := ⟨w.heap.size + 1, 2, none⟩) (by simp; omega) (.int .i64 c)).set (p := ⟨w.heap.size + 1, 3, none⟩) (by simp; omega) (.int .i64 sh)).set (p := ⟨w.heap.size + 1, 4, none⟩) (by simp; omega) (.slice (some ⟨g, 0, none⟩) n n))
  have HB := Lib.hid ((((((hbw.setCell (p := ⟨w.heap.size + 1 + 1, 4, none⟩) (by simp; omega) (.slice (some ⟨g, 0, none⟩) n n)).setCell (p := ⟨w.heap.size + 1, 0, none⟩) (by simp) (.int .i64 s)).setCell (p := ⟨w.heap.size + 1, 1, none⟩) (by simp) (.int .i64 l)).setCell
    (p := ⟨w.heap.size + 1, 2, none⟩) (by simp) (.int .i64 c)).setCell (p := ⟨w.heap.size + 1, 3, none⟩) (by simp) (.int .i64 sh)).setCell (p := ⟨w.heap.size + 1, 4, none⟩) (by simp) (.slice (some ⟨g, 0, none⟩) n n))
  have HG : Hid (w.heap.size ≤ g) := Nat.le_trans hbW.size hg
  clear hrow hbw hb1 hg hbW B1' B2 C1 C2
  go_wp2
  exact bodyPost_ret (v := .agg #[.int .i64 s, .int .i64 l, .int .i64 c, .int .i64 sh, .slice (some ⟨g, 0, none⟩) n n]) (by simp [results, Tryd.results16, go_sem, c10, c11, c12, c13, c14]) rfl ⟨g, HG, rfl, HF, fun i => by simp [hfz.out i], by simp only [size_set]; exact hgl.out, HB⟩

theorem Row.write {w : World} {g n : Nat} {zs : List Int} (h : Row w w.heap.size (some ⟨g, 0, none⟩) n zs) (i : Nat) (k : Int) : Row (w.setCell ⟨g, i, none⟩ (.int .i64 k)) (w.setCell ⟨g, i, none⟩ (.int .i64 k)).heap.size (some ⟨g, 0, none⟩) n (zs.set i k) := by
  refine ⟨by simpa using h.1, fun hn => ?_⟩
  obtain ⟨b, o, hA, hb, hc⟩ := h.2 hn
  cases hA
  refine ⟨_, _, rfl, by rw [size_set]; exact hb, fun j hj => ?_⟩
  have hcj := hc j hj
  rw [Nat.zero_add] at hcj ⊢
  by_cases e : j = i
  · subst e
    rw [World.cell?_setCell_same _ _ _ hcj]
    simp [nth, h.1, hj]
  · rw [World.cell?_setCell_other _ _ _ _ (fun e' => e (by injection e' with _ e'; exact e'.symm)), hcj]
    simp [nth, show ¬ i = j by omega]

set_option maxHeartbeats 1000000 in
theorem markInts_is (g n cap : Nat) (k : Int) (zs : List Int) (w : World) (hn : n ≤ 4194304) (hk0 : 0 ≤ k) (hk1 : k ≤ 100000000) (hr : Row w w.heap.size (some ⟨g, 0, none⟩) n zs) (hf : ∀ i, w.frozen? ⟨g, i, none⟩ = false) :
    Calls Tryd.prog 61 #[.slice (some ⟨g, 0, none⟩) n cap, .int .i64 k] w fun e w' => e = .returned (.int .i64 (k + n)) ∧ w.grownBy w' (some g) := by
  have HR := Lib.hid hr
  have HF := Lib.hid hf
  clear hr hf
  go_enter Tryd.func61, Tryd.ntmps61
  go_wp2_with fail
  go_loopw [1, 5] (fun kv iv wr => ∃ (i : Nat) (k' : Int) (zs' : List Int), i ≤ n ∧ k + i = k' ∧ iv = .int .i64 i ∧ kv = .int .i64 k' ∧ Row wr wr.heap.size (some ⟨g, 0, none⟩) n zs' ∧ (∀ o, wr.frozen? ⟨g, o, none⟩ = false) ∧ w.grownBy wr (some g)) (fun _ i _ => n - (intOf i).toNat)
  case atStart => exact ⟨0, k, zs, Nat.zero_le _, by omega, rfl, rfl, HR.out, HF.out, grown_refl _ _⟩
  case round =>
    obtain ⟨i, k', zs', hi, hk', rfl, rfl, hrow, hfz, hg⟩ := hrel
    have hb : k' ≤ 200000000 := by omega
    have hb0 : 0 ≤ k' := by omega
    by_cases hlt : i < n
    · have hlt' : (i : Int) < (n : Int) := by omega
      obtain ⟨b, o, hA, hbB, hcell⟩ := hrow.2 (by omega)
      cases hA
      have c0 := hcell i hlt
      rw [Nat.zero_add] at c0
      have f0 := hfz i
      have HW := Lib.hid (hrow.write i k')
      have HFF := Lib.hid (show ∀ o, (wr.setCell ⟨g, i, none⟩ (.int .i64 k')).frozen? ⟨g, o, none⟩ = false from fun o => by simp [hfz o])
      have HG := Lib.hid (grown_set hg i (.int .i64 k'))
      replace hk' := Lib.hid hk'
      clear hcell hfz hrow hg
      go_wp2
      go_roundw
      case rel => exact ⟨i + 1, k' + 1, zs'.set i k', by omega, by have := hk'.out; omega, by go_num, rfl, HW.out, HFF.out, HG.out⟩
      case measure => simp [intOf]; omega
    · obtain rfl : i = n := by omega
      replace hk' := Lib.hid hk'
      go_wp2
      go_ret
      exact ⟨by rw [hk'.out]; rfl, hg⟩
theorem markGroup_is (s l c sh : Int) (g n cap : Nat) (k : Int) (zs : List Int) (w : World) (hn : n ≤ 4194304) (hk0 : 0 ≤ k) (hk1 : k ≤ 100000000) (hr : Row w w.heap.size (some ⟨g, 0, none⟩) n zs) (hf : ∀ i, w.frozen? ⟨g, i, none⟩ = false) (hg : g < w.heap.size) :
    Calls Tryd.prog 21 #[.agg #[.int .i64 s, .int .i64 l, .int .i64 c, .int .i64 sh, .slice (some ⟨g, 0, none⟩) n cap], .int .i64 k] w fun e w' => e = .returned (.int .i64 (k + n)) ∧ w.grownBy w' (some g) := by
  have E0 := bel_alloc w (.cells #[.int .i64 s, .int .i64 l, .int .i64 c, .int .i64 sh, .slice (some ⟨g, 0, none⟩) n cap] 26)
  have DG := Box.new w 26 #[.int .i64 s, .int .i64 l, .int .i64 c, .int .i64 sh, .slice (some ⟨g, 0, none⟩) n cap]
  have HR := Lib.hid ((hr.below E0 (Nat.le_refl _)).more E0.size)
  have HF := Lib.hid (show ∀ i, (w.alloc (.cells #[.int .i64 s, .int .i64 l, .int .i64 c, .int .i64 sh, .slice (some ⟨g, 0, none⟩) n cap] 26)).frozen? ⟨g, i, none⟩ = false from fun i => (E0.frozen (p := ⟨g, i, none⟩) hg).trans (hf i))
  clear hr hf
  obtain ⟨d0, d1, d2, d3, d4⟩ := DG.five
  go_enter Tryd.func21, Tryd.ntmps21
  go_wp2_with fail
  generalize (w.alloc _ : World) = w1 at E0 DG HR HF d0 d1 d2 d3 d4 ⊢
  refine (markInts_is g n cap k zs w1 hn hk0 hk1 HR.out HF.out).mono ?_
  rintro e w2 ⟨rfl, hg2⟩
  go_wp2
  go_ret
  exact ⟨rfl, grown_trans (grown_bel E0 _) hg2⟩

end Go.Proofs.YtgjbebfcbpfngaaDoor

/- What the exact law of ReadNote is built of: copies of bytes, marks of a note that was read, and what both ReadNotes leave in one form. -/
namespace Go.Proofs.YtgjbebfcbpfngaaDoor
open Go.RowKit

theorem Tryd.infoB6 : (Tryd.prog.info? 5).map (fun i => (i.zero, i.size, i.bytes)) = some (some (.int .u8 0), 1, 1) := by kernel_rfl
/-- The first k are copied. -/
def uptoB (bs : List Int) (k j : Nat) : Value := if j < k then .int .u8 (nth bs j) else .int .u8 0
theorem uptoB_succ {w : World} {b n k : Nat} {bs : List Int} (h : w.rowIs b 5 n (uptoB bs k)) : (w.setCell ⟨b, k, none⟩ (.int .u8 (nth bs k))).rowIs b 5 n (uptoB bs (k + 1)) :=
  (h.set k _).congr fun i _ => by
    unfold uptoB
    by_cases e : i = k
    · subst e; simp
    · by_cases f : i < k
      · simp [e, f, show i < k + 1 by omega]
      · simp [e, f, show ¬ i < k + 1 by omega]
/-- What a copy of bytes leaves. -/
def MadeB (w : World) (n : Nat) (bs : List Int) (e : Ending) (w' : World) : Prop := ∃ g, w.heap.size ≤ g ∧ e = .returned (.slice (some ⟨g, 0, none⟩) n n) ∧ BHeld w' g bs ∧ Below w.heap.size w w'
set_option maxHeartbeats 1000000 in
theorem toBytes_any (A : Option Addr) (n cap : Nat) (bs : List Int) (w : World) (hm : n ≤ 1048576) (hr : BRow w w.heap.size A n bs) :
    Calls Tryd.prog 17 #[.slice A n cap] w (MadeB w n bs) := by
  have hmk := fun W => run_make_row' (P := Tryd.prog) 22 5 (.int .u8 0) 1 Tryd.underlying22 Tryd.infoB6 rfl .i64 .i64 n (by omega) (by omega) W
  have HR := Lib.hid hr
  clear hr
  go_enter Tryd.func17, Tryd.ntmps17
  go_wp2_with fail
  go_loopw [4] (fun i wr => ∃ k : Nat, k ≤ n ∧ i = .int .i64 k ∧ wr.rowIs w.heap.size 5 n (uptoB bs k) ∧ Below w.heap.size w wr) (fun i _ => n - (intOf i).toNat)
  case atStart => exact ⟨0, Nat.zero_le _, rfl, (World.rowIs_made w (.int .u8 0) n 5).congr (fun i _ => by simp [uptoB]), bel_alloc _ _⟩
  case round =>
    obtain ⟨k, hk, rfl, hrow, hb⟩ := hrel
    by_cases hlt : k < n
    · obtain ⟨b, o, hA, hbB, hcell⟩ := HR.out.2 (by omega)
      subst hA
      have g := (hb.cell (p := ⟨b, o + k, none⟩) hbB).trans (hcell k hlt)
      have g1 := hrow.cell hlt
      have g2 := hrow.frozen k
      have HS := Lib.hid (uptoB_succ hrow)
      have HB := Lib.hid (hb.setCell (p := ⟨w.heap.size, k, none⟩) (Nat.le_refl _) (.int .u8 (nth bs k)))
      clear hcell hrow hb
      go_wp2
      go_roundw
      case rel => exact ⟨k + 1, by omega, by go_num, HS.out, HB.out⟩
      case measure => simp [intOf]; omega
    · have hkn : k = n := by omega
      subst hkn
      have hz := HR.out.1
      go_wp2
      go_ret
      exact ⟨_, Nat.le_refl _, rfl, ⟨hrow.lt, fun o => hrow.frozen o, fun i hi => by rw [hrow.cell (by omega)]; simp [uptoB, show i < k by omega]⟩, hb⟩

/-- A list of seals in a block of its own from B on, or nil. -/
def LstD (w : World) (B : Nat) (U : Option Addr) (n : Nat) (D : List (Int × Int)) : Prop := (U = none ∧ n = 0 ∧ D = []) ∨ ∃ g, U = some ⟨g, 0, none⟩ ∧ D.length = n ∧ B ≤ g ∧ Held w g D
theorem LstD.len {w : World} {B : Nat} {U : Option Addr} {n : Nat} {D : List (Int × Int)} (h : LstD w B U n D) : D.length = n := by
  rcases h with ⟨_, h2, h3⟩ | ⟨_, _, h2, _⟩
  · rw [h3, h2]; rfl
  · exact h2
theorem LstD.later {w w' : World} {B : Nat} {U : Option Addr} {n : Nat} {D : List (Int × Int)} (h : LstD w B U n D) (hb : Below w.heap.size w w') : LstD w' B U n D := by
  rcases h with h | ⟨g, h1, h2, h3, h4⟩
  · exact .inl h
  · exact .inr ⟨g, h1, h2, h3, h4.later hb⟩
theorem Held.kept6 {w w' : World} {g : Nat} {d : List (Int × Int)} {r : Option Nat} (h : Held w g d) (hg : w.grownBy w' r) (hne : r ≠ some g) : Held w' g d := by
  have e := hg.block g h.lt (fun e => hne e.symm)
  exact ⟨Nat.lt_of_lt_of_le h.lt hg.size, fun o => (World.frozen?_of_block (w := w) (w' := w') (a := ⟨g, o, none⟩) e).trans (h.fr o), fun i hi => (World.cell?_of_block (w := w) (w' := w') (a := ⟨g, i * 2, none⟩) e).trans (h.at0 i hi), fun i hi => (World.cell?_of_block (w := w) (w' := w') (a := ⟨g, i * 2 + 1, none⟩) e).trans (h.at1 i hi)⟩
theorem LstD.kept {w w' : World} {B : Nat} {U : Option Addr} {n : Nat} {D : List (Int × Int)} {r : Option Nat} (h : LstD w B U n D) (hg : w.grownBy w' r) (hne : ∀ g, U = some ⟨g, 0, none⟩ → r ≠ some g) : LstD w' B U n D := by
  rcases h with h | ⟨g, h1, h2, h3, h4⟩
  · exact .inl h
  · exact .inr ⟨g, h1, h2, h3, h4.kept6 hg (hne g h1)⟩
theorem LstD.pairs {w : World} {B : Nat} {U : Option Addr} {n : Nat} {D : List (Int × Int)} (h : LstD w B U n D) : Pairs w w.heap.size U n D := by
  rcases h with ⟨rfl, rfl, rfl⟩ | ⟨g, rfl, h2, _, h4⟩
  · exact ⟨rfl, fun h => absurd h (by omega)⟩
  · exact h2 ▸ h4.pairs
theorem markL_is {w : World} {B : Nat} {U : Option Addr} {n : Nat} {D : List (Int × Int)} (k : Int) (h : LstD w B U n D) (hn : n ≤ 4194304) (hk0 : 0 ≤ k) (hk1 : k ≤ 100000000) :
    Calls Tryd.prog 62 #[.slice U n n, .int .i64 k] w fun e w' => e = .returned (.int .i64 (k + 2 * n)) ∧ ∃ D', Marked k D' ∧ LstD w' B U n D' ∧ w.grownBy w' (U.map (·.block)) := by
  rcases h with ⟨rfl, rfl, rfl⟩ | ⟨g, rfl, h2, h3, h4⟩
  · refine (mark_nil k w).mono ?_
    rintro e w' ⟨rfl, rfl⟩
    exact ⟨by simp, [], fun j hj => by simp at hj, .inl ⟨rfl, rfl, rfl⟩, grown_refl _ _⟩
  · refine (mark_is g n n k D w hn hk0 hk1 h2 h4).mono ?_
    rintro e w' ⟨rfl, d', hl, hM, hH, hg⟩
    exact ⟨rfl, d', hM, .inr ⟨g, rfl, hl, h3, hH⟩, hg⟩
theorem heldL_is {w : World} {B : Nat} {U : Option Addr} {n : Nat} {D : List (Int × Int)} (k : Int) (h : LstD w B U n D) (hM : Marked k D) (hn : n ≤ 4194304) (hk0 : 0 ≤ k) (hk1 : k ≤ 100000000) :
    Calls Tryd.prog 63 #[.slice U n n, .int .i64 k] w fun e w' => e = .returned (.int .i64 (k + 2 * n)) ∧ w = w' := by
  rcases h with ⟨rfl, rfl, rfl⟩ | ⟨g, rfl, h2, h3, h4⟩
  · refine (held_nil k w).mono ?_
    rintro e w' ⟨rfl, rfl⟩
    exact ⟨by simp, rfl⟩
  · exact held_is g n n k D w hn hk0 hk1 h2 hM h4

/-- What marks of a note that was read leave. -/
def NoteMarked (w : World) (B : Nat) (U V : Option Addr) (un vn : Nat) (k : Int) (e : Ending) (w' : World) : Prop :=
  e = .returned (.int .i64 (k + 2 * un + 2 * vn)) ∧ ∃ (D1 D2 : List (Int × Int)) (w1 : World), Marked k D1 ∧ Marked (k + 2 * un) D2 ∧ LstD w' B U un D1 ∧ LstD w' B V vn D2 ∧ w.grownBy w1 (U.map (·.block)) ∧ w1.grownBy w' (V.map (·.block))
set_option maxHeartbeats 2000000 in
theorem markRead_is {N : Array Value} {X : List Int} {U V : Option Addr} {un vn B : Nat} {ps qs : List (Int × Int)} (hN : N = noteA X (.slice U un un) (.slice V vn vn)) (k : Int) (w : World) (hu : un ≤ 1048576) (hv : vn ≤ 1048576) (hk0 : 0 ≤ k) (hk1 : k ≤ 10000000) (h1 : LstD w B U un ps) (h2 : LstD w B V vn qs)
    (hap : ∀ g g', U = some ⟨g, 0, none⟩ → V = some ⟨g', 0, none⟩ → g ≠ g') :
    Calls Tryd.prog 23 #[.agg N, .int .i64 k] w (NoteMarked w B U V un vn k) := by
  have B0 := Box.new w 31 N
  have E0 := bel_alloc w (.cells N 31)
  have cN := B0.cell
  have n11 : N[11]? = some (.slice U un un) := by rw [hN]; rfl
  have n12 : N[12]? = some (.slice V vn vn) := by rw [hN]; rfl
  have hU : ∀ g, U = some ⟨g, 0, none⟩ → g < w.heap.size := by
    rintro g rfl
    rcases h1 with ⟨e, _⟩ | ⟨g', e, _, _, h4⟩
    · cases e
    · cases e; exact h4.lt
  replace h1 := Lib.hid (h1.later E0)
  replace h2 := Lib.hid (h2.later E0)
  replace hap := Lib.hid hap
  replace hU := Lib.hid hU
  clear hN
  go_enter Tryd.func23, Tryd.ntmps23
  go_wp2_with fail
  generalize (w.alloc _ : World) = w0 at B0 E0 cN h1 h2 ⊢
  refine (markL_is k h1.out (by omega) hk0 (by omega)).mono ?_
  rintro e w1 ⟨rfl, D1, hM1, hL1, hg1⟩
  have hUw : ∀ r, U.map (·.block) = some r → r ≠ w.heap.size := by
    intro r hr
    rcases h1.out with ⟨rfl, _⟩ | ⟨g, rfl, _⟩
    · cases hr
    · cases hr; have := hU.out g rfl; show g ≠ w.heap.size; omega
  have B1 := B0.kept hg1 (fun e => hUw _ e rfl)
  have cN := B1.cell
  have h2' := Lib.hid (h2.out.kept hg1 (by
    intro g' hg' e
    rcases h1.out with ⟨rfl, _⟩ | ⟨g, rfl, _⟩
    · cases e
    · cases e; exact hap.out g g rfl hg' rfl))
  replace hM1 := Lib.hid hM1
  replace hL1 := Lib.hid hL1
  replace hUw := Lib.hid hUw
  clear B0
  go_wp2_with fail
  refine (markL_is (k + 2 * un) h2'.out (by omega) (by omega) (by omega)).mono ?_
  rintro e w2 ⟨rfl, D2, hM2, hL2, hg2⟩
  have HL1 := Lib.hid (hL1.out.kept hg2 (by
    intro g hg e
    rcases h2.out with ⟨rfl, _⟩ | ⟨g', rfl, _⟩
    · cases e
    · cases e; exact hap.out _ _ hg rfl rfl))
  have HG := Lib.hid (grown_trans (grown_bel E0 (U.map (·.block))) hg1)
  replace hg2 := Lib.hid hg2
  replace hM2 := Lib.hid hM2
  replace hL2 := Lib.hid hL2
  clear hg1 B1 cN
  go_wp2
  go_ret
  exact ⟨rfl, D1, D2, w1, hM1.out, hM2.out, HL1.out, hL2.out, HG.out, hg2.out⟩
set_option maxHeartbeats 2000000 in
theorem heldRead_is {N : Array Value} {X : List Int} {U V : Option Addr} {un vn B : Nat} {D1 D2 : List (Int × Int)} (hN : N = noteA X (.slice U un un) (.slice V vn vn)) (k : Int) (w : World) (hu : un ≤ 1048576) (hv : vn ≤ 1048576) (hk0 : 0 ≤ k) (hk1 : k ≤ 10000000) (h1 : LstD w B U un D1) (h2 : LstD w B V vn D2) (hM1 : Marked k D1) (hM2 : Marked (k + 2 * un) D2) :
    Calls Tryd.prog 24 #[.agg N, .int .i64 k] w fun e w' => e = .returned (.int .i64 (k + 2 * un + 2 * vn)) ∧ Below w.heap.size w w' := by
  have B0 := Box.new w 31 N
  have E0 := bel_alloc w (.cells N 31)
  have cN := B0.cell
  have n11 : N[11]? = some (.slice U un un) := by rw [hN]; rfl
  have n12 : N[12]? = some (.slice V vn vn) := by rw [hN]; rfl
  have hn1 : ¬ (k + 2 * un < 0) := by omega
  have hn2 : ¬ (k + 2 * un + 2 * vn < 0) := by omega
  replace h1 := Lib.hid (h1.later E0)
  replace h2 := Lib.hid (h2.later E0)
  replace hM1 := Lib.hid hM1
  replace hM2 := Lib.hid hM2
  clear hN
  go_enter Tryd.func24, Tryd.ntmps24
  go_wp2_with fail
  generalize (w.alloc _ : World) = w0 at B0 E0 cN h1 h2 ⊢
  refine (heldL_is k h1.out hM1.out (by omega) hk0 (by omega)).mono ?_
  rintro e w1 ⟨rfl, rfl⟩
  go_wp2_with fail
  refine (heldL_is (k + 2 * un) h2.out hM2.out (by omega) (by omega) (by omega)).mono ?_
  rintro e w1 ⟨rfl, rfl⟩
  replace E0 := Lib.hid E0
  go_wp2
  go_ret
  exact ⟨rfl, E0.out⟩

theorem eqRead_is {N1 N0 : Array Value} {X : List Int} {U V : Option Addr} {un vn : Nat} {U0 V0 : Option Addr} {uc vc uc' vc' : Nat} {ps qs : List (Int × Int)} (h1 : N1 = noteA X (.slice U un uc) (.slice V vn vc)) (h0 : N0 = noteA X (.slice U0 un uc') (.slice V0 vn vc')) (w : World) (hu : un ≤ 1048576) (hv : vn ≤ 1048576)
    (hp : Pairs w w.heap.size U un ps) (hq : Pairs w w.heap.size V vn qs) (hp' : Pairs w w.heap.size U0 un ps) (hq' : Pairs w w.heap.size V0 vn qs) :
    Calls Tryd.prog 18 #[.agg N1, .agg N0] w fun e w' => e = .returned (.bool true) ∧ Below w.heap.size w w' := by
  subst h1 h0
  exact eqNote_same (nth X 0) (nth X 1) (nth X 2) (nth X 3) (nth X 4) (nth X 5) (nth X 6) (nth X 7) (nth X 8) (nth X 9) (nth X 10) U un uc V vn vc (nth X 11) (nth X 12) (nth X 13) U0 uc' V0 vc' ps qs w hu hv hp hq hp' hq'

/-- What both ReadNotes answer: numbers, lists. -/
def XR (s l c sh : Int) (zs bs : List Int) : List Int := if okR s l c sh zs bs = true then (rdNote bs).1 else [0, 0, 0, 0, 0, 0, 0, 0, 0, 0, 0, 0, 0, 0]
def PR (s l c sh : Int) (zs bs : List Int) : List (Int × Int) := if okR s l c sh zs bs = true then (rdNote bs).2.1 else []
def QR (s l c sh : Int) (zs bs : List Int) : List (Int × Int) := if okR s l c sh zs bs = true then (rdNote bs).2.2.1 else []
theorem zn_note : ZN = noteA [0, 0, 0, 0, 0, 0, 0, 0, 0, 0, 0, 0, 0, 0] (.slice none 0 0) (.slice none 0 0) := rfl
theorem PR_len {s l c sh : Int} {zs bs : List Int} (hB : Bys bs) : (PR s l c sh zs bs).length ≤ 20 ∧ (QR s l c sh zs bs).length ≤ 20 := by
  have b0 : SBys (some bs) := hB
  have a3 := askSeals_len (asks_bys 14 b0)
  have a4 := askSeals_len (askSeals_bys (asks_bys 14 b0))
  unfold PR QR
  split
  · exact ⟨a3, a4⟩
  · exact ⟨by simp, by simp⟩
/-- What ReadNote of the program leaves, in one form. -/
def ReadOut (w : World) (b : Bool) (X : List Int) (ps qs : List (Int × Int)) (e : Ending) (w' : World) : Prop :=
  ∃ (U V : Option Addr) (un vn : Nat), e = .returned (.tuple #[.agg (noteA X (.slice U un un) (.slice V vn vn)), .bool b]) ∧ LstD w' w.heap.size U un ps ∧ LstD w' w.heap.size V vn qs ∧ (∀ g g', U = some ⟨g, 0, none⟩ → V = some ⟨g', 0, none⟩ → g ≠ g') ∧ Below w.heap.size w w'
theorem reads_out {w w' : World} {s l c sh : Int} {zs bs : List Int} {e : Ending} (h : Reads w s l c sh zs bs e w') : ReadOut w (okR s l c sh zs bs) (XR s l c sh zs bs) (PR s l c sh zs bs) (QR s l c sh zs bs) e w' := by
  obtain ⟨hb, ⟨hok, g1, g2, n1, n2, he, l1, l2, b1, b2, hne, h1, h2⟩ | ⟨hok, he⟩⟩ := h
  · refine ⟨some ⟨g1, 0, none⟩, some ⟨g2, 0, none⟩, n1, n2, ?_, .inr ⟨g1, rfl, ?_, b1, ?_⟩, .inr ⟨g2, rfl, ?_, b2, ?_⟩, ?_, hb⟩
    · rw [he, hok]; simp [XR, hok]
    · simp [PR, hok, l1]
    · simpa [PR, hok] using h1
    · simp [QR, hok, l2]
    · simpa [QR, hok] using h2
    · rintro g g' e e'; cases e; cases e'; exact hne
  · refine ⟨none, none, 0, 0, ?_, .inl ⟨rfl, rfl, ?_⟩, .inl ⟨rfl, rfl, ?_⟩, ?_, hb⟩
    · rw [he, hok, zn_note]; simp [XR, hok]
    · simp [PR, hok]
    · simp [QR, hok]
    · rintro g g' e; cases e
/-- What ReadNote of the model leaves, in one form. -/
def SReadOut (w : World) (b : Bool) (X : List Int) (ps qs : List (Int × Int)) (e : Ending) (w' : World) : Prop :=
  ∃ (U V : Option Addr) (uc vc : Nat), e = .returned (.tuple #[.agg (noteA X (.slice U ps.length uc) (.slice V qs.length vc)), .bool b]) ∧ Pairs w' w'.heap.size U ps.length ps ∧ Pairs w' w'.heap.size V qs.length qs ∧ Below w.heap.size w w'
theorem sreads_out {w w' : World} {s l c sh : Int} {zs bs : List Int} {e : Ending} (h : SReads w s l c sh zs bs e w') : SReadOut w (okR s l c sh zs bs) (XR s l c sh zs bs) (PR s l c sh zs bs) (QR s l c sh zs bs) e w' := by
  obtain ⟨hb, ⟨hok, g1, g2, c1, c2, he, _, _, h1, h2⟩ | ⟨hok, he⟩⟩ := h
  · have e1 : PR s l c sh zs bs = (rdNote bs).2.1 := by simp [PR, hok]
    have e2 : QR s l c sh zs bs = (rdNote bs).2.2.1 := by simp [QR, hok]
    have e3 : XR s l c sh zs bs = (rdNote bs).1 := by simp [XR, hok]
    rw [e1, e2, e3, hok]
    exact ⟨_, _, c1, c2, he, h1.pairs, h2.pairs, hb⟩
  · have e1 : PR s l c sh zs bs = [] := by simp [PR, hok]
    have e2 : QR s l c sh zs bs = [] := by simp [QR, hok]
    have e3 : XR s l c sh zs bs = [0, 0, 0, 0, 0, 0, 0, 0, 0, 0, 0, 0, 0, 0] := by simp [XR, hok]
    rw [e1, e2, e3, hok]
    exact ⟨none, none, 0, 0, by rw [he, zn_note]; rfl, ⟨rfl, fun h => absurd h (by simp)⟩, ⟨rfl, fun h => absurd h (by simp)⟩, hb⟩

end Go.Proofs.YtgjbebfcbpfngaaDoor

/- The exact law of ReadNote answers true, whatever it is given: its walk. -/
namespace Go.Proofs.YtgjbebfcbpfngaaDoor
open Go.RowKit

/-- Keys of one's own, that can be written. -/
structure RKeys (w : World) (y n : Nat) (zs : List Int) : Prop where
  lt : y < w.heap.size
  fr : ∀ o, w.frozen? ⟨y, o, none⟩ = false
  row : Row w w.heap.size (some ⟨y, 0, none⟩) n zs
theorem RKeys.later {w w' : World} {y n : Nat} {zs : List Int} (h : RKeys w y n zs) (hb : Below w.heap.size w w') : RKeys w' y n zs :=
  ⟨Nat.lt_of_lt_of_le h.lt hb.size, fun o => (hb.frozen (p := ⟨y, o, none⟩) h.lt).trans (h.fr o), (h.row.below hb (Nat.le_refl _)).more hb.size⟩
theorem sreads_at {w w' : World} {s l c sh : Int} {zs bs X : List Int} {ps qs : List (Int × Int)} {bo : Bool} {un vn : Nat} {e : Ending} (hX : X = XR s l c sh zs bs) (hp : ps = PR s l c sh zs bs) (hq : qs = QR s l c sh zs bs) (hb : bo = okR s l c sh zs bs) (hu : ps.length = un) (hv : qs.length = vn) (h : SReads w s l c sh zs bs e w') :
    ∃ (U V : Option Addr) (uc vc : Nat), e = .returned (.tuple #[.agg (noteA X (.slice U un uc) (.slice V vn vc)), .bool bo]) ∧ Pairs w' w'.heap.size U un ps ∧ Pairs w' w'.heap.size V vn qs ∧ Below w.heap.size w w' := by
  subst hu hv hX hp hq hb
  exact sreads_out h
theorem reads_at {w w' : World} {s l c sh : Int} {zs bs X : List Int} {ps qs : List (Int × Int)} {bo : Bool} {un vn : Nat} {e : Ending} (hX : X = XR s l c sh zs bs) (hp : ps = PR s l c sh zs bs) (hq : qs = QR s l c sh zs bs) (hb : bo = okR s l c sh zs bs) (hu : ps.length = un) (hv : qs.length = vn) (h : Reads w s l c sh zs bs e w') :
    ∃ (U V : Option Addr), e = .returned (.tuple #[.agg (noteA X (.slice U un un) (.slice V vn vn)), .bool bo]) ∧ LstD w' w.heap.size U un ps ∧ LstD w' w.heap.size V vn qs ∧ (∀ g g', U = some ⟨g, 0, none⟩ → V = some ⟨g', 0, none⟩ → g ≠ g') ∧ Below w.heap.size w w' := by
  obtain ⟨U, V, un', vn', he, h1, h2, hap, hw⟩ := reads_out h
  rw [← hp] at h1
  rw [← hq] at h2
  have e1 := h1.len.symm.trans hu
  have e2 := h2.len.symm.trans hv
  subst e1 e2
  rw [← hX, ← hb] at he
  exact ⟨U, V, he, h1, h2, hap, hw⟩
theorem LstD.lt {w : World} {B : Nat} {U : Option Addr} {n : Nat} {D : List (Int × Int)} (h : LstD w B U n D) : ∀ r, U.map (·.block) = some r → B ≤ r ∧ r < w.heap.size := by
  rcases h with ⟨rfl, _⟩ | ⟨g, rfl, _, h3, h4⟩
  · intro r hr; cases hr
  · intro r hr; cases hr; exact ⟨h3, h4.lt⟩

/-- What the exact law of ReadNote keeps of the program's answer. -/
structure Q8 (w3 wr : World) (S : Nat) (N : Array Value) (C : Nat) (U V : Option Addr) (un vn : Nat) (ps qs : List (Int × Int)) : Prop where
  F : Below w3.heap.size w3 wr
  S : Box wr S 31 N
  L1 : LstD wr C U un ps
  L2 : LstD wr C V vn qs
theorem Q8.later {w3 wr w' : World} {S : Nat} {N : Array Value} {C : Nat} {U V : Option Addr} {un vn : Nat} {ps qs : List (Int × Int)} (h : Q8 w3 wr S N C U V un vn ps qs) (hb : Below wr.heap.size wr w') : Q8 w3 w' S N C U V un vn ps qs :=
  ⟨bel_trans h.F hb, h.S.later hb h.S.lt, h.L1.later hb, h.L2.later hb⟩
theorem Q8.kept {w3 wr w' : World} {S : Nat} {N : Array Value} {C r : Nat} {U V : Option Addr} {un vn : Nat} {ps qs : List (Int × Int)} (h : Q8 w3 wr S N C U V un vn ps qs) (hg : wr.grownBy w' (some r)) (h3 : w3.heap.size ≤ r) (hC : r < C) (hS : C ≤ S) : Q8 w3 w' S N C U V un vn ps qs :=
  ⟨bel_grown h.F hg h3, h.S.kept hg (by intro e; injection e with e; omega),
    h.L1.kept hg (by intro g hU e; injection e with e; have := h.L1.lt g (by rw [hU]; rfl); omega),
    h.L2.kept hg (by intro g hU e; injection e with e; have := h.L2.lt g (by rw [hU]; rfl); omega)⟩
theorem Q8.marked {w3 wr w' w1 : World} {S : Nat} {N : Array Value} {C : Nat} {U V : Option Addr} {un vn : Nat} {ps qs D1 D2 : List (Int × Int)} (h : Q8 w3 wr S N C U V un vn ps qs) (h1 : wr.grownBy w1 (U.map (·.block))) (h2 : w1.grownBy w' (V.map (·.block))) (l1 : LstD w' C U un D1) (l2 : LstD w' C V vn D2) (h3 : w3.heap.size ≤ C) (hU : ∀ r, U.map (·.block) = some r → r < S) (hV : ∀ r, V.map (·.block) = some r → r < S) : Q8 w3 w' S N C U V un vn D1 D2 :=
  ⟨(h.F.grown h1 h.F.size (fun r hr => by have := l1.lt r hr; omega)).grown h2 (Nat.le_trans h.F.size h1.size) (fun r hr => by have := l2.lt r hr; omega),
    (h.S.kept h1 (fun e => by have := hU _ e; omega)).kept h2 (fun e => by have := hV _ e; omega), l1, l2⟩

set_option maxRecDepth 100000 in
set_option maxHeartbeats 16000000 in
theorem exactRead_small (aE aM aS aL : Addr) (s l c sh : Int) (A : Option Addr) (n cap : Nat) (zs : List Int) (P : Option Addr) (m pc : Nat) (bs : List Int) (w : World) (hE : Errs w w.heap.size aE aM aS aL) (hm0 : n ≤ 1048576) (hm1 : m ≤ 1048576) (hr : Row w w.heap.size A n zs) (hb : BRow w w.heap.size P m bs) (hB : Bys bs) :
    Calls Tryd.prog 5 #[.agg #[.int .i64 s, .int .i64 l, .int .i64 c, .int .i64 sh, .slice A n cap], .slice P m pc] w fun e w' => e = .returned (.bool true) ∧ Below w.heap.size w w' := by
  have hmm : ¬ ((1048576 : Int) < (m : Int)) := by omega
  have HX : Hid (n ≤ maxLen ∧ m ≤ maxLen) := by show n ≤ maxLen ∧ m ≤ maxLen; unfold maxLen; omega
  have hlb := Lib.hid hb.1
  have HR := Lib.hid hr
  have HY := Lib.hid hb
  have HB := Lib.hid hB
  have HE := Lib.hid hE
  obtain ⟨X, hX⟩ : ∃ X, X = XR s l c sh zs bs := ⟨_, rfl⟩
  obtain ⟨ps, hps⟩ : ∃ X, X = PR s l c sh zs bs := ⟨_, rfl⟩
  obtain ⟨qs, hqs⟩ : ∃ X, X = QR s l c sh zs bs := ⟨_, rfl⟩
  obtain ⟨bo, hbo⟩ : ∃ X, X = okR s l c sh zs bs := ⟨_, rfl⟩
  obtain ⟨un, hun⟩ : ∃ k, ps.length = k := ⟨_, rfl⟩
  obtain ⟨vn, hvn⟩ : ∃ k, qs.length = k := ⟨_, rfl⟩
  have hu : un ≤ 20 := by rw [← hun, hps]; exact (PR_len hB).1
  have hv : vn ≤ 20 := by rw [← hvn, hqs]; exact (PR_len hB).2
  replace hX := Lib.hid hX
  replace hps := Lib.hid hps
  replace hqs := Lib.hid hqs
  replace hbo := Lib.hid hbo
  replace hun := Lib.hid hun
  replace hvn := Lib.hid hvn
  clear hr hb hB hE
  have D0 := Box.new w 42 #[.int .i64 s, .int .i64 l, .int .i64 c, .int .i64 sh, .slice A n cap]
  have E0 := bel_alloc w (.cells #[.int .i64 s, .int .i64 l, .int .i64 c, .int .i64 sh, .slice A n cap] 42)
  go_enter Tryd.func5, Tryd.ntmps5
  go_wp2_with fail
  generalize (w.alloc _ : World) = w0 at D0 E0 ⊢
  refine (szGroup_le s l c sh A n cap w0 hm0).mono ?_
  rintro e w2 ⟨rfl, hb⟩
  have D2 := D0.later hb D0.lt
  have E2 := bel_trans E0 hb
  clear D0 E0 hb
  have hnn : ¬ ((1048576 : Int) - n < 0) := by omega
  go_upto_region 7 with fail
  -- the model, on copies
  go_cut [6, 7] (fun v u wr => ∃ M U V uc vc, v = .pointer (some ⟨M, 0, none⟩) ∧ u = .bool bo ∧ w.heap.size < M ∧ Box wr M 31 (noteA X (.slice U un uc) (.slice V vn vc)) ∧ Pairs wr wr.heap.size U un ps ∧ Pairs wr wr.heap.size V vn qs ∧ Box wr w.heap.size 42 #[.int .i64 s, .int .i64 l, .int .i64 c, .int .i64 sh, .slice A n cap] ∧ Below w.heap.size w wr)
  case first => as_aux_lemma =>
    obtain ⟨g0, g1, g2, g3, g4⟩ := D2.five
    go_wp2_with fail
    refine (toGroup_any s l c sh A n cap zs w2 hm0 ((HR.out.below E2 (Nat.le_refl _)).more E2.size)).mono ?_
    rintro e w3 ⟨y3, -, rfl, hrow3, hb3⟩
    have D3 := D2.later hb3 D2.lt
    have E3 := bel_trans E2 hb3
    clear D2 E2 hb3 g0 g1 g2 g3 g4
    go_wp2_with fail
    refine (toBytes_any P m pc bs w3 hm1 (HY.out.later E3)).mono ?_
    rintro e w4 ⟨y4, -, rfl, hH4, hb4⟩
    have D4 := D3.later hb4 D3.lt
    have E4 := bel_trans E3 hb4
    have hrow4 := (hrow3.below hb4 (Nat.le_refl _)).more hb4.size
    clear D3 E3 hb4 hrow3
    go_wp2_with fail
    refine (specRead_is s l c sh _ n n zs _ m m bs w4 HX.out.1 hrow4 (hH4.row hlb.out) HB.out HX.out.2).mono ?_
    rintro e w5 hS
    obtain ⟨U, V, uc, vc, rfl, hp5, hq5, hb5⟩ := sreads_at hX.out hps.out hqs.out hbo.out hun.out hvn.out hS
    have D5 := D4.later hb5 D4.lt
    have E5 := bel_trans E4 hb5
    clear hS D4 E4 hb5 hrow4 hH4
    obtain ⟨N, hN⟩ : ∃ N, N = noteA X (.slice U un uc) (.slice V vn vc) := ⟨_, rfl⟩
    have sh1 := noteA_shape X (.slice U un uc) (.slice V vn vc)
    rw [← hN] at sh1 ⊢
    have HI := Lib.hid sh1.info
    have HS := Lib.hid (show ZN.size = N.size from sh1.size.symm)
    have H1 := Lib.hid (sh1.one rfl rfl)
    have F := bel_setRow (bel_alloc w5 (.cells ZN 31)) (Nat.le_refl _) N
    have N6 := (Box.new w5 31 ZN).setRow N
    have D6 := D5.later F D5.lt
    have E6 := bel_trans E5 F
    have hp6 := hp5.later F
    have hq6 := hq5.later F
    have hd := D5.lt
    replace hN := Lib.hid hN
    clear D5 E5 hp5 hq5 F sh1
    go_wp2_with (refine wpList_store_row rfl 31 _ _ rfl w5.heap.size N rfl rfl 31 ZN (heap_alloc_new w5 _) HI.out HS.out H1.out ?_)
    go_meet
    exact ⟨w5.heap.size, U, V, uc, vc, rfl, rfl, hd, hN.out ▸ N6, hp6, hq6, D6, E6⟩
  case rest =>
  obtain ⟨M, U0, V0, uc, vc, rfl, rfl, hM, M3, p3, q3, D3, E3⟩ := hcut
  obtain ⟨w3, rfl⟩ : ∃ x, x = wc := ⟨_, rfl⟩
  obtain ⟨N0, hN0⟩ : ∃ N, N = noteA X (.slice U0 un uc) (.slice V0 vn vc) := ⟨_, rfl⟩
  have HI0 : Hid ((Tryd.prog.info? 31).map (·.size) = some N0.size) := Lib.hid (by rw [hN0]; exact (noteA_shape _ _ _).info)
  rw [← hN0] at M3
  replace hN0 := Lib.hid hN0
  clear D2 E2
  have hM3 := M3.lt
  have hs3 := E3.size
  replace p3 := Lib.hid p3
  replace q3 := Lib.hid q3
  -- the copies that are handed in
  go_upto_region 8 with fail
  go_cut [8] (fun v wr => ∃ R y, v = .pointer (some ⟨R, 0, none⟩) ∧ w3.heap.size ≤ y ∧ y < R ∧ Box wr R 26 #[.int .i64 s, .int .i64 l, .int .i64 c, .int .i64 sh, .slice (some ⟨y, 0, none⟩) n n] ∧ RKeys wr y n zs ∧ Below w3.heap.size w3 wr)
  case first => as_aux_lemma =>
    obtain ⟨g0, g1, g2, g3, g4⟩ := D3.five
    go_wp2_with fail
    refine (toGroup_fr s l c sh A n cap zs w3 hm0 ((HR.out.below E3 (Nat.le_refl _)).more E3.size)).mono ?_
    rintro e w4 ⟨y, hy, rfl, hrow, hfr, hyl, hb⟩
    have F := bel_alloc w4 (.cells #[.int .i64 s, .int .i64 l, .int .i64 c, .int .i64 sh, .slice (some ⟨y, 0, none⟩) n n] 26)
    have H4 := RKeys.later ⟨hyl, hfr, hrow⟩ F
    have Y4 := Box.new w4 26 #[.int .i64 s, .int .i64 l, .int .i64 c, .int .i64 sh, .slice (some ⟨y, 0, none⟩) n n]
    have G := bel_trans hb F
    replace hfr := Lib.hid hfr
    clear g0 g1 g2 g3 g4 hb hrow F M3 D3 E3
    go_wp2_with fail
    go_meet
    exact ⟨w4.heap.size, y, rfl, hy, hyl, Y4, H4, G⟩
  case rest =>
  obtain ⟨R, y, rfl, hy3, hyR, Z4, H4, F4⟩ := hcut
  obtain ⟨w4, rfl⟩ : ∃ x, x = wc := ⟨_, rfl⟩
  have hR4 := Z4.lt
  go_upto_region 9 with fail
  go_cut [9] (fun v wr => ∃ g, v = .slice (some ⟨g, 0, none⟩) m m ∧ R < g ∧ BHeld wr g bs ∧ Below w4.heap.size w4 wr)
  case first => as_aux_lemma =>
    go_wp2_with fail
    refine (toBytes_any P m pc bs w4 hm1 (HY.out.later (bel_trans E3 F4))).mono ?_
    rintro e w5 ⟨g, hg, rfl, hH, hb⟩
    clear M3 D3 E3 Z4 H4 F4
    go_wp2_with fail
    go_meet
    exact ⟨g, rfl, by omega, hH, hb⟩
  case rest =>
  obtain ⟨g, rfl, hRg, J5, hb⟩ := hcut
  obtain ⟨w5, rfl⟩ : ∃ x, x = wc := ⟨_, rfl⟩
  have Z5 := Z4.later hb Z4.lt
  have H5 := H4.later hb
  have F5 := bel_trans F4 hb
  have hg5 := J5.lt
  clear Z4 H4 F4 hb
  -- the program
  go_upto_region 10 with fail
  go_cut [10, 11] (fun v u wr => ∃ S U V, v = .pointer (some ⟨S, 0, none⟩) ∧ u = .bool bo ∧ w5.heap.size ≤ S ∧ (∀ r, U.map (·.block) = some r → r < S) ∧ (∀ r, V.map (·.block) = some r → r < S) ∧ (∀ g g', U = some ⟨g, 0, none⟩ → V = some ⟨g', 0, none⟩ → g ≠ g') ∧ Box wr S 31 (noteA X (.slice U un un) (.slice V vn vn)) ∧ LstD wr w5.heap.size U un ps ∧ LstD wr w5.heap.size V vn qs ∧ Below w5.heap.size w5 wr)
  case first => as_aux_lemma =>
    obtain ⟨z0, z1, z2, z3, z4⟩ := Z5.five
    go_wp2_with fail
    refine (readNote_is aE aM aS aL w.heap.size s l c sh _ n n zs _ m m bs w5 (HE.out.later (bel_trans E3 F5) (Nat.le_refl _)) (bel_trans E3 F5).size HX.out.1 H5.row (J5.row hlb.out) HB.out HX.out.2 (Nat.le_refl _)).mono ?_
    rintro e w6 hS
    obtain ⟨U, V, rfl, l1, l2, hap, hb6⟩ := reads_at hX.out hps.out hqs.out hbo.out hun.out hvn.out hS
    clear hS
    obtain ⟨N, hN⟩ : ∃ N, N = noteA X (.slice U un un) (.slice V vn vn) := ⟨_, rfl⟩
    have sh1 := noteA_shape X (.slice U un un) (.slice V vn vn)
    rw [← hN] at sh1 ⊢
    have HI := Lib.hid sh1.info
    have HS := Lib.hid (show ZN.size = N.size from sh1.size.symm)
    have H1 := Lib.hid (sh1.one rfl rfl)
    have F := bel_setRow (bel_alloc w6 (.cells ZN 31)) (Nat.le_refl _) N
    have N6 := (Box.new w6 31 ZN).setRow N
    have k1 := Lib.hid (fun r h => (l1.lt r h).2)
    have k2 := Lib.hid (fun r h => (l2.lt r h).2)
    have l1' := l1.later F
    have l2' := l2.later F
    have F6 := bel_trans hb6 F
    have hs6 := hb6.size
    replace hN := Lib.hid hN
    replace hap := Lib.hid hap
    clear z0 z1 z2 z3 z4 Z5 H5 J5 F5 M3 D3 E3 l1 l2 F hb6 sh1
    go_wp2_with (refine wpList_store_row rfl 31 _ _ rfl w6.heap.size N rfl rfl 31 ZN (heap_alloc_new w6 _) HI.out HS.out H1.out ?_)
    go_meet
    exact ⟨w6.heap.size, U, V, rfl, rfl, hs6, k1.out, k2.out, hap.out, hN.out ▸ N6, l1', l2', F6⟩
  case rest =>
  obtain ⟨S, U, V, rfl, rfl, hS5, hUS, hVS, hap, S6, l6, r6, hb⟩ := hcut
  obtain ⟨w6, rfl⟩ : ∃ x, x = wc := ⟨_, rfl⟩
  obtain ⟨N, hN⟩ : ∃ N, N = noteA X (.slice U un un) (.slice V vn vn) := ⟨_, rfl⟩
  have HI : Hid ((Tryd.prog.info? 31).map (·.size) = some N.size) := Lib.hid (by rw [hN]; exact (noteA_shape _ _ _).info)
  rw [← hN] at S6
  have hSM : M ≠ S := by have := F5.size; omega
  have K6 : Q8 w3 w6 S N w5.heap.size U V un vn ps qs := ⟨bel_trans F5 hb, S6, l6, r6⟩
  have Z6 := Z5.later hb Z5.lt
  have H6 := H5.later hb
  have J6 := J5.later hb
  have hs5 := F5.size
  replace hN := Lib.hid hN
  replace hUS := Lib.hid hUS
  replace hVS := Lib.hid hVS
  replace hap := Lib.hid hap
  generalize w5.heap.size = C at K6 hS5 hg5 hs5
  clear Z5 H5 J5 F5 hb S6 l6 r6
  have hff : (bo != bo) = false := by simp
  -- it answers as its model
  have M6 := M3.later K6.F hM3
  have S6 := K6.S
  go_wp2_with (first | (refine wpList_load_box 31 _ rfl S rfl 31 N S6 _ Tryd.underlying31 rfl HI.out (by simp [Region.wanted, yielded]) ?_) | (refine wpList_load_box 31 _ rfl M rfl 31 N0 M6 _ Tryd.underlying31 rfl HI0.out (by simp [Region.wanted, yielded]) ?_))
  refine (eqRead_is hN.out hN0.out w6 (by omega) (by omega) K6.L1.pairs K6.L2.pairs (p3.out.later K6.F) (q3.out.later K6.F)).mono ?_
  rintro e w7 ⟨rfl, hb⟩
  replace K6 := K6.later hb
  replace Z6 := Z6.later hb Z6.lt
  replace H6 := H6.later hb
  replace J6 := J6.later hb
  clear hb M6 S6
  go_upto_region 13 with fail
  go_cut [56] (fun v wr => v = .bool false ∧ Below w7.heap.size w7 wr)
  case first => as_aux_lemma =>
    have E6 := bel_trans E3 K6.F
    have R6 := (HR.out.below E6 (Nat.le_refl _)).more E6.size
    have D6 := D3.later K6.F D3.lt
    have r6 := H6.row
    obtain ⟨g0, g1, g2, g3, g4⟩ := D6.five
    obtain ⟨z0, z1, z2, z3, z4⟩ := Z6.five
    have hne : w.heap.size ≠ R := by omega
    clear K6 H6 J6 M3 D3 E3 E6
    go_wp2_with fail
    go_region_held3 (fun w' => w'.cell? ⟨w.heap.size, 0, none⟩ = some (.int .i64 s) ∧ w'.cell? ⟨w.heap.size, 1, none⟩ = some (.int .i64 l) ∧ w'.cell? ⟨w.heap.size, 2, none⟩ = some (.int .i64 c) ∧ w'.cell? ⟨w.heap.size, 3, none⟩ = some (.int .i64 sh) ∧ w'.cell? ⟨w.heap.size, 4, none⟩ = some (.slice A n cap) ∧ w'.cell? ⟨R, 0, none⟩ = some (.int .i64 s) ∧ w'.cell? ⟨R, 1, none⟩ = some (.int .i64 l) ∧ w'.cell? ⟨R, 2, none⟩ = some (.int .i64 c) ∧ w'.cell? ⟨R, 3, none⟩ = some (.int .i64 sh) ∧ w'.cell? ⟨R, 4, none⟩ = some (.slice (some ⟨y, 0, none⟩) n n)) (first | (with_reducible exact K9) | (with_reducible exact K8) | go_keep)
      (first
        | (go_at_call 16; refine (toGroup_any s l c sh A n cap zs _ hm0 ?_).mono ?_; exact R6; rintro e w8 ⟨y8, hy8, rfl, hrow8, hb8⟩; have F8 := bel_drew' hb8; have r8 := (r6.below F8 (Nat.le_refl _)).more F8.size; have K8 := groupGroup (D6.later F8 D6.lt) (Z6.later F8 Z6.lt))
        | (go_at_call 19; refine (eqGroup_same s l c sh _ _ n n n zs _ hm0 r8 hrow8).mono ?_; rintro e w9 ⟨rfl, hb9⟩; have F9 := bel_trans F8 hb9; have K9 := groupGroup (D6.later F9 D6.lt) (Z6.later F9 Z6.lt)))
    all_goals
      have G := F9
      clear K8 K9 F8 F9 hb8 hb9 r8 hrow8 R6 g0 g1 g2 g3 g4 z0 z1 z2 z3 z4 D6 Z6 r6
      go_wp2_with fail
      go_meet
      exact ⟨rfl, G⟩
  case rest =>
  obtain ⟨rfl, hb⟩ := hcut
  obtain ⟨w8, rfl⟩ : ∃ x, x = wc := ⟨_, rfl⟩
  replace K6 := K6.later hb
  replace Z6 := Z6.later hb Z6.lt
  replace H6 := H6.later hb
  replace J6 := J6.later hb
  clear hb
  go_wp2_with fail
  refine (toBytes_any P m pc bs w8 hm1 (HY.out.later (bel_trans E3 K6.F))).mono ?_
  rintro e w9 ⟨g9, -, rfl, H9, hb⟩
  replace K6 := K6.later hb
  replace Z6 := Z6.later hb Z6.lt
  replace H6 := H6.later hb
  replace J6 := J6.later hb
  clear hb
  go_wp2_with fail
  refine (eqBytes_same _ _ m m m bs w9 hm1 (J6.row hlb.out) (H9.row hlb.out)).mono ?_
  rintro e w10 ⟨rfl, hb⟩
  replace K6 := K6.later hb
  replace Z6 := Z6.later hb Z6.lt
  replace H6 := H6.later hb
  replace J6 := J6.later hb
  clear hb H9
  -- the copies are written
  go_upto_region 18 with fail
  go_cut [12] (fun v wr => v = .int .i64 (1 + n) ∧ w10.grownBy wr (some y))
  case first => as_aux_lemma =>
    obtain ⟨z0, z1, z2, z3, z4⟩ := Z6.five
    go_wp2_with fail
    refine (markGroup_is s l c sh y n n 1 zs w10 (by omega) (by omega) (by omega) H6.row H6.fr H6.lt).mono ?_
    rintro e w11 ⟨rfl, hg⟩
    clear K6 H6 J6 Z6 M3 D3 E3 z0 z1 z2 z3 z4
    go_wp2_with fail
    go_meet
    exact ⟨rfl, hg⟩
  case rest =>
  obtain ⟨rfl, hg⟩ := hcut
  obtain ⟨w11, rfl⟩ : ∃ x, x = wc := ⟨_, rfl⟩
  replace K6 := K6.kept hg (by omega) (by omega) (by omega)
  replace J6 := J6.kept hg (by intro e; injection e with e; omega)
  clear hg H6 Z6
  go_wp2_with fail
  refine (markB_is g m m (1 + n) bs w11 (by omega) (by omega) (by omega) hlb.out J6).mono ?_
  rintro e w12 ⟨rfl, d, -, -, -, hg⟩
  replace K6 := K6.kept hg (by omega) (by omega) (by omega)
  clear hg J6
  have hk0 : ¬ ((1 : Int) + n + m < 0) := by omega
  have M6 := M3.later K6.F hM3
  have S6 := K6.S
  go_wp2_with (first | (refine wpList_load_box 31 _ rfl S rfl 31 N S6 _ Tryd.underlying31 rfl HI.out (by simp [Region.wanted, yielded, Act.put] <;> omega) ?_) | (refine wpList_load_box 31 _ rfl M rfl 31 N0 M6 _ Tryd.underlying31 rfl HI0.out (by simp [Region.wanted, yielded, Act.put] <;> omega) ?_))
  refine (eqRead_is hN.out hN0.out w12 (by omega) (by omega) K6.L1.pairs K6.L2.pairs (p3.out.later K6.F) (q3.out.later K6.F)).mono ?_
  rintro e w13 ⟨rfl, hb⟩
  replace K6 := K6.later hb
  clear hb M6 S6
  -- the answer is written
  have S6 := K6.S
  go_wp2_with (refine wpList_load_box 31 _ rfl S rfl 31 N S6 _ Tryd.underlying31 rfl HI.out (by simp [Region.wanted, yielded]) ?_)
  refine (markRead_is hN.out 1 w13 (by omega) (by omega) (by omega) (by omega) K6.L1 K6.L2 hap.out).mono ?_
  rintro e w14 ⟨rfl, D1, D2, wm, hM1, hM2, l1, l2, hg1, hg2⟩
  replace K6 := K6.marked hg1 hg2 l1 l2 (by omega) hUS.out hVS.out
  replace hM1 := Lib.hid hM1
  replace hM2 := Lib.hid hM2
  clear hg1 hg2 l1 l2 S6
  have S6 := K6.S
  go_wp2_with (refine wpList_load_box 31 _ rfl S rfl 31 N S6 _ Tryd.underlying31 rfl HI.out (by simp [Region.wanted, yielded]) ?_)
  refine (heldRead_is hN.out 1 w14 (by omega) (by omega) (by omega) (by omega) K6.L1 K6.L2 hM1.out hM2.out).mono ?_
  rintro e w15 ⟨rfl, hb⟩
  replace K6 := K6.later hb
  clear hb S6
  have hk1 : ¬ ((1 : Int) + 2 * un + 2 * vn < 0) := by omega
  -- and it stays
  go_upto_region 30 with fail
  go_cut [15, 16] (fun v u wr => ∃ T U V, v = .pointer (some ⟨T, 0, none⟩) ∧ u = .bool bo ∧ w15.heap.size ≤ T ∧ Box wr T 31 (noteA X (.slice U un un) (.slice V vn vn)) ∧ Pairs wr wr.heap.size U un ps ∧ Pairs wr wr.heap.size V vn qs ∧ Below w15.heap.size w15 wr)
  case first => as_aux_lemma =>
    have E6 := bel_trans E3 K6.F
    have D6 := D3.later K6.F D3.lt
    have hs6 := E6.size
    obtain ⟨g0, g1, g2, g3, g4⟩ := D6.five
    clear M3 D3 E3 K6
    go_wp2_with fail
    refine (toGroup_any s l c sh A n cap zs w15 hm0 ((HR.out.below E6 (Nat.le_refl _)).more E6.size)).mono ?_
    rintro e w16 ⟨y3, -, rfl, hrow3, hb3⟩
    have E7 := bel_trans E6 hb3
    clear g0 g1 g2 g3 g4 D6 E6
    go_wp2_with fail
    refine (toBytes_any P m pc bs w16 hm1 (HY.out.later E7)).mono ?_
    rintro e w17 ⟨y4, -, rfl, hH4, hb4⟩
    have E8 := bel_trans E7 hb4
    have F8 := bel_trans hb3 hb4
    have hrow4 := (hrow3.below hb4 (Nat.le_refl _)).more hb4.size
    clear E7 hb3 hb4 hrow3
    go_wp2_with fail
    refine (readNote_is aE aM aS aL w.heap.size s l c sh _ n n zs _ m m bs w17 (HE.out.later E8 (Nat.le_refl _)) E8.size HX.out.1 hrow4 (hH4.row hlb.out) HB.out HX.out.2 (Nat.le_refl _)).mono ?_
    rintro e w18 hS
    obtain ⟨U', V', rfl, l1, l2, -, hb6⟩ := reads_at hX.out hps.out hqs.out hbo.out hun.out hvn.out hS
    clear hS
    obtain ⟨N', hN'⟩ : ∃ N, N = noteA X (.slice U' un un) (.slice V' vn vn) := ⟨_, rfl⟩
    have sh1 := noteA_shape X (.slice U' un un) (.slice V' vn vn)
    rw [← hN'] at sh1 ⊢
    have HI' := Lib.hid sh1.info
    have HS := Lib.hid (show ZN.size = N'.size from sh1.size.symm)
    have H1 := Lib.hid (sh1.one rfl rfl)
    have F := bel_setRow (bel_alloc w18 (.cells ZN 31)) (Nat.le_refl _) N'
    have N6 := (Box.new w18 31 ZN).setRow N'
    have l1' := (l1.later F).pairs
    have l2' := (l2.later F).pairs
    have F9 := bel_trans (bel_trans F8 hb6) F
    have hs7 := (bel_trans F8 hb6).size
    replace hN' := Lib.hid hN'
    clear E8 F8 hrow4 hH4 l1 l2 F hb6 sh1
    go_wp2_with (refine wpList_store_row rfl 31 _ _ rfl w18.heap.size N' rfl rfl 31 ZN (heap_alloc_new w18 _) HI'.out HS.out H1.out ?_)
    go_meet
    exact ⟨w18.heap.size, U', V', rfl, rfl, hs7, hN'.out ▸ N6, l1', l2', F9⟩
  case rest =>
  obtain ⟨T, U', V', rfl, rfl, hT, T7, p7, q7, hb⟩ := hcut
  obtain ⟨w16, rfl⟩ : ∃ x, x = wc := ⟨_, rfl⟩
  obtain ⟨N', hN'⟩ : ∃ N, N = noteA X (.slice U' un un) (.slice V' vn vn) := ⟨_, rfl⟩
  have HI' : Hid ((Tryd.prog.info? 31).map (·.size) = some N'.size) := Lib.hid (by rw [hN']; exact (noteA_shape _ _ _).info)
  rw [← hN'] at T7
  replace hN' := Lib.hid hN'
  have hTM : M ≠ T := by have := K6.F.size; omega
  replace K6 := K6.later hb
  have M6 := M3.later K6.F hM3
  clear hb
  go_wp2_with (first | (refine wpList_load_box 31 _ rfl T rfl 31 N' T7 _ Tryd.underlying31 rfl HI'.out (by simp [Region.wanted, yielded]) ?_) | (refine wpList_load_box 31 _ rfl M rfl 31 N0 M6 _ Tryd.underlying31 rfl HI0.out (by simp [Region.wanted, yielded]) ?_))
  refine (eqRead_is hN'.out hN0.out w16 (by omega) (by omega) p7 q7 (p3.out.later K6.F) (q3.out.later K6.F)).mono ?_
  rintro e w17 ⟨rfl, hb⟩
  replace K6 := K6.later hb
  clear hb M6 T7 p7 q7
  have S6 := K6.S
  go_wp2_with (refine wpList_load_box 31 _ rfl S rfl 31 N S6 _ Tryd.underlying31 rfl HI.out (by simp [Region.wanted, yielded]) ?_)
  refine (heldRead_is hN.out 1 w17 (by omega) (by omega) (by omega) (by omega) K6.L1 K6.L2 hM1.out hM2.out).mono ?_
  rintro e w18 ⟨rfl, hb⟩
  have E := bel_trans E3 (bel_trans K6.F hb)
  clear K6 hb S6 M3 D3 E3
  go_wp2
  go_ret
  exact ⟨rfl, E⟩
theorem exactRead_big (s l c sh : Int) (A : Option Addr) (n cap : Nat) (P : Option Addr) (m pc : Nat) (w : World) (hn : n ≤ maxLen) (hx : m ≤ maxLen) (hm : 1048576 < n ∨ 1048576 < m) :
    Calls Tryd.prog 5 #[.agg #[.int .i64 s, .int .i64 l, .int .i64 c, .int .i64 sh, .slice A n cap], .slice P m pc] w fun e w' => e = .returned (.bool true) ∧ Below w.heap.size w w' := by
  have E0 := bel_alloc w (.cells #[.int .i64 s, .int .i64 l, .int .i64 c, .int .i64 sh, .slice A n cap] 42)
  have HN := Lib.hid hn
  have HM := Lib.hid hx
  clear hn hx
  rcases Nat.lt_or_ge 1048576 m with h | h
  · have hmm : (1048576 : Int) < (m : Int) := by omega
    go_enter Tryd.func5, Tryd.ntmps5
    go_wp2
    go_ret
    exact ⟨rfl, E0⟩
  · have hmm : ¬ ((1048576 : Int) < (m : Int)) := by omega
    have h1 : 1048576 < n := by omega
    clear hm
    go_enter Tryd.func5, Tryd.ntmps5
    go_wp2_with fail
    refine (szGroup_gt s l c sh A n cap _ h1 HN.out).mono ?_
    rintro e w1 ⟨rfl, hb⟩
    have E := bel_trans E0 hb
    go_wp2
    go_ret
    exact ⟨rfl, E⟩

end Go.Proofs.YtgjbebfcbpfngaaDoor

/- What the rows' list of package variables gives: where the errors lie; and a world that has them so; no conditions. -/
namespace Go.Proofs.YtgjbebfcbpfngaaDoor
open Go.RowKit Go.Extern.Stop Go.Stop Go.Extern

/-- The list, as the rows have it. -/
def laidL : List (String × DataW Unit) := [("errors.errorType", Rows.laid_errors_errorType), ("loop.example/g00695/impl.errEnd", Rows.laid_loop_example_g00695_impl_errEnd), ("loop.example/g00695/impl.errEndless", Rows.laid_loop_example_g00695_impl_errEndless), ("loop.example/g00695/impl.errShorter", Rows.laid_loop_example_g00695_impl_errShorter), ("loop.example/g00695/impl.errManySeals", Rows.laid_loop_example_g00695_impl_errManySeals)]
theorem Tryd.gE : Tryd.prog.globalNamed "loop.example/g00695/impl.errEnd" = some 0 := by kernel_rfl
theorem Tryd.gM : Tryd.prog.globalNamed "loop.example/g00695/impl.errManySeals" = some 1 := by kernel_rfl
theorem Tryd.gT : Tryd.prog.globalNamed "errors.errorType" = some 2 := by kernel_rfl
theorem Tryd.gS : Tryd.prog.globalNamed "loop.example/g00695/impl.errShorter" = some 3 := by kernel_rfl
theorem Tryd.gL : Tryd.prog.globalNamed "loop.example/g00695/impl.errEndless" = some 4 := by kernel_rfl
theorem Tryd.tE : (Tryd.prog.globals[0]?).map (·.type) = some 69 := by kernel_rfl
theorem Tryd.tM : (Tryd.prog.globals[1]?).map (·.type) = some 69 := by kernel_rfl
theorem Tryd.tS : (Tryd.prog.globals[3]?).map (·.type) = some 69 := by kernel_rfl
theorem Tryd.tL : (Tryd.prog.globals[4]?).map (·.type) = some 69 := by kernel_rfl
theorem Tryd.cellsES : Tryd.prog.cellsOf 176 = 1 := by kernel_rfl
theorem Tryd.cellsStr : Tryd.prog.cellsOf 9 = 1 := by kernel_rfl
theorem starES : "*" ++ "errors.errorString" = "*errors.errorString" := by decide
theorem Tryd.rowES (u : TypeId) (h : Tryd.prog.typeName? 3 u = some "*errors.errorString") : u = 154 :=
  typeName_ptr_named (nm := "errors.errorString") (by rw [starES]; kernel_rfl) (by kernel_rfl) (by decide) u (by rw [starES]; exact h)
theorem Tryd.rtype : (Tryd.prog.cutTypes.find? (·.1 == "internal/reflectlite.rtype")).map (·.2) = some 139 := by kernel_rfl
theorem Tryd.nTypes : Tryd.prog.types.size = 188 := by kernel_rfl
theorem Tryd.oneError : ((List.range 188).filter fun t => Tryd.prog.rowNamed t [101, 114, 114, 111, 114]) = [69] := by kernel_rfl

theorem block_lt {W : World} {b : Nat} {o : Obj} (h : W.heap[b]? = some o) : b < W.heap.size := by
  rcases Nat.lt_or_ge b W.heap.size with h' | h'
  · exact h'
  · rw [Array.getElem?_eq_none h'] at h; cases h

set_option maxRecDepth 100000 in
/-- What the condition gives a walk: where the errors lie. -/
theorem errs_of_laid {W : World} (h : laidMetH Tryd.prog laidL W) : ∃ aE aM aS aL, Errs W W.heap.size aE aM aS aL ∧
    W.var? Tryd.prog "loop.example/g00695/impl.errEnd" = some #[.iface 154 (.pointer (some aE))] ∧ W.var? Tryd.prog "loop.example/g00695/impl.errShorter" = some #[.iface 154 (.pointer (some aS))] ∧
    W.var? Tryd.prog "loop.example/g00695/impl.errEndless" = some #[.iface 154 (.pointer (some aL))] ∧ W.var? Tryd.prog "loop.example/g00695/impl.errManySeals" = some #[.iface 154 (.pointer (some aM))] := by
  have h' : laidMet Tryd.prog [("loop.example/g00695/impl.errEnd", Rows.laid_loop_example_g00695_impl_errEnd), ("loop.example/g00695/impl.errEndless", Rows.laid_loop_example_g00695_impl_errEndless), ("loop.example/g00695/impl.errShorter", Rows.laid_loop_example_g00695_impl_errShorter), ("loop.example/g00695/impl.errManySeals", Rows.laid_loop_example_g00695_impl_errManySeals)] W ∧ handlesMet Tryd.prog [("errors.errorType", Rows.laid_errors_errorType)] W := h
  obtain ⟨hl, hh⟩ := h'
  have hT : W.cell? ⟨2, 0, none⟩ = some (.iface 139 (.agg #[.pointer (some ⟨5, 69, none⟩)])) := by
    obtain ⟨name, u, ty, e1, e2, e3, e4, e5⟩ := hh _ (List.mem_singleton.2 rfl)
    have en : name = [101, 114, 114, 111, 114] := (Option.some.inj e1).symm
    subst en
    obtain rfl := Option.some.inj (Tryd.rtype.symm.trans e2)
    have hm : ty ∈ (List.range 188).filter fun t => Tryd.prog.rowNamed t [101, 114, 114, 111, 114] := List.mem_filter.2 ⟨List.mem_range.2 (by rw [← Tryd.nTypes]; exact e3), e4⟩
    rw [Tryd.oneError] at hm
    obtain rfl := List.mem_singleton.1 hm
    have hh : typeHandle Tryd.prog 69 = .pointer (some ⟨5, 69, none⟩) := by kernel_rfl
    rw [hh] at e5
    simpa using World.var?_cell Tryd.gT e5 0
  obtain ⟨ps, ⟨g0, t0, cs0, f0, p0, q0, hg0, ht0, hv0, hd0, ⟨g1, t1, cs1, f1, p1, q1, hg1, ht1, hv1, hd1, ⟨g2, t2, cs2, f2, p2, q2, hg2, ht2, hv2, hd2, ⟨g3, t3, cs3, f3, p3, q3, hg3, ht3, hv3, hd3, _, e3⟩, e2⟩, e1⟩, e0⟩, hnd, hrows⟩ := hl
  obtain rfl := Option.some.inj (Tryd.gE.symm.trans hg0)
  obtain rfl := Option.some.inj (Tryd.gL.symm.trans hg1)
  obtain rfl := Option.some.inj (Tryd.gS.symm.trans hg2)
  obtain rfl := Option.some.inj (Tryd.gM.symm.trans hg3)
  obtain rfl := Option.some.inj (Tryd.tE.symm.trans ht0)
  obtain rfl := Option.some.inj (Tryd.tL.symm.trans ht1)
  obtain rfl := Option.some.inj (Tryd.tS.symm.trans ht2)
  obtain rfl := Option.some.inj (Tryd.tM.symm.trans ht3)
  subst e3
  subst e2
  subst e1
  subst e0
  obtain ⟨l0⟩ := cs0
  obtain ⟨l1⟩ := cs1
  obtain ⟨l2⟩ := cs2
  obtain ⟨l3⟩ := cs3
  have ok0 : ∀ u v, l0 = [.iface u v] → Value.okWide Tryd.prog W .any 0 u v := fun u v e => by
    subst e
    exact (hrows 0 0 (by simp [MemPlace.row])).2 u v (by simpa using World.var?_cell hg0 hv0 0)
  have ok1 : ∀ u v, l1 = [.iface u v] → Value.okWide Tryd.prog W .any 0 u v := fun u v e => by
    subst e
    exact (hrows 4 0 (by simp [MemPlace.row])).2 u v (by simpa using World.var?_cell hg1 hv1 0)
  have ok2 : ∀ u v, l2 = [.iface u v] → Value.okWide Tryd.prog W .any 0 u v := fun u v e => by
    subst e
    exact (hrows 3 0 (by simp [MemPlace.row])).2 u v (by simpa using World.var?_cell hg2 hv2 0)
  have ok3 : ∀ u v, l3 = [.iface u v] → Value.okWide Tryd.prog W .any 0 u v := fun u v e => by
    subst e
    exact (hrows 1 0 (by simp [MemPlace.row])).2 u v (by simpa using World.var?_cell hg3 hv3 0)
  obtain ⟨a0, s0, rfl, hc0, hs0, hz0, rfl⟩ := errorString_of_trod Tryd.underlying69 Tryd.rowES Tryd.underlying154 Tryd.underlying176 rfl rfl Tryd.underlying9 Tryd.cellsES Tryd.cellsStr hd0 ok0
  obtain ⟨a1, s1, rfl, hc1, hs1, hz1, rfl⟩ := errorString_of_trod Tryd.underlying69 Tryd.rowES Tryd.underlying154 Tryd.underlying176 rfl rfl Tryd.underlying9 Tryd.cellsES Tryd.cellsStr hd1 ok1
  obtain ⟨a2, s2, rfl, hc2, hs2, hz2, rfl⟩ := errorString_of_trod Tryd.underlying69 Tryd.rowES Tryd.underlying154 Tryd.underlying176 rfl rfl Tryd.underlying9 Tryd.cellsES Tryd.cellsStr hd2 ok2
  obtain ⟨a3, s3, rfl, hc3, hs3, hz3, rfl⟩ := errorString_of_trod Tryd.underlying69 Tryd.rowES Tryd.underlying154 Tryd.underlying176 rfl rfl Tryd.underlying9 Tryd.cellsES Tryd.cellsStr hd3 ok3
  obtain ⟨c0, t0, hb0⟩ := (hrows a0.block a0.off (by simp [MemPlace.row])).1
  obtain ⟨c1, t1, hb1⟩ := (hrows a1.block a1.off (by simp [MemPlace.row])).1
  obtain ⟨c2, t2, hb2⟩ := (hrows a2.block a2.off (by simp [MemPlace.row])).1
  obtain ⟨c3, t3, hb3⟩ := (hrows a3.block a3.off (by simp [MemPlace.row])).1
  have g4 : W.cell? ⟨4, 0, none⟩ = some (.iface 154 (.pointer (some a1))) := by simpa using World.var?_cell hg1 hv1 0
  refine ⟨a0, a3, a2, a1, ⟨by simpa using World.var?_cell hg0 hv0 0, by simpa using World.var?_cell hg3 hv3 0, hT, by simpa using World.var?_cell hg2 hv2 0, g4, ⟨c0, t0, hb0⟩, ⟨c3, t3, hb3⟩, ⟨c2, t2, hb2⟩, ⟨c1, t1, hb1⟩, ?_, ?_, ?_, ?_⟩, hv0, hv2, hv1, hv3⟩
  · rintro rfl
    simp [MemPlace.row] at hnd
  · rintro rfl
    simp [MemPlace.row] at hnd
  · rintro rfl
    simp [MemPlace.row] at hnd
  · exact ⟨World.block_lt_of_cell? W ⟨4, 0, none⟩ g4, block_lt hb0, block_lt hb3, block_lt hb2, block_lt hb1⟩

theorem vars_read4 {H : Type} (enc : TypeId × Value → H) {W : World} {aE aM aS aL : Addr} (h0 : W.var? Tryd.prog "loop.example/g00695/impl.errEnd" = some #[.iface 154 (.pointer (some aE))]) (h1 : W.var? Tryd.prog "loop.example/g00695/impl.errShorter" = some #[.iface 154 (.pointer (some aS))])
    (h2 : W.var? Tryd.prog "loop.example/g00695/impl.errEndless" = some #[.iface 154 (.pointer (some aL))]) (h3 : W.var? Tryd.prog "loop.example/g00695/impl.errManySeals" = some #[.iface 154 (.pointer (some aM))]) (sp : Nat → Bool) :
    DataW.TrodVars enc Tryd.prog W sp ["loop.example/g00695/impl.errEnd", "loop.example/g00695/impl.errShorter", "loop.example/g00695/impl.errEndless", "loop.example/g00695/impl.errManySeals"]
      [tok enc (.iface 154 (.pointer (some aE))), tok enc (.iface 154 (.pointer (some aS))), tok enc (.iface 154 (.pointer (some aL))), tok enc (.iface 154 (.pointer (some aM)))] [.cell 0 0, .cell 3 0, .cell 4 0, .cell 1 0] :=
  ⟨0, 69, #[.iface 154 (.pointer (some aE))], 1, [], _, Tryd.gE, Tryd.tE, h0, trod_held Tryd.underlying69 (show IsIface (.iface 154 (.pointer (some aE))) from trivial) 0, ⟨3, 69, #[.iface 154 (.pointer (some aS))], 1, [], _, Tryd.gS, Tryd.tS, h1, trod_held Tryd.underlying69 (show IsIface (.iface 154 (.pointer (some aS))) from trivial) 0, ⟨4, 69, #[.iface 154 (.pointer (some aL))], 1, [], _, Tryd.gL, Tryd.tL, h2, trod_held Tryd.underlying69 (show IsIface (.iface 154 (.pointer (some aL))) from trivial) 0, ⟨1, 69, #[.iface 154 (.pointer (some aM))], 1, [], [], Tryd.gM, Tryd.tM, h3, trod_held Tryd.underlying69 (show IsIface (.iface 154 (.pointer (some aM))) from trivial) 0, rfl, rfl⟩, rfl⟩, rfl⟩, rfl⟩
theorem var_below {W W' : World} {n : String} {g : Nat} {cs : Array Value} (hg : Tryd.prog.globalNamed n = some g) (h : W.var? Tryd.prog n = some cs) (hb : Below W.heap.size W W') : W'.var? Tryd.prog n = some cs := by
  rw [← h]
  unfold World.var?
  rw [hg]
  simp only [Option.bind_some]
  have hlt : g < W.heap.size := by
    rcases Nat.lt_or_ge g W.heap.size with h' | h'
    · exact h'
    · unfold World.var? at h; rw [hg] at h; simp [Array.getElem?_eq_none h'] at h
  rw [hb.block g hlt]

end Go.Proofs.YtgjbebfcbpfngaaDoor

/- What a card's frame is built of: a world that meets the condition on the errors; bytes that come in, read as a list. -/
namespace Go.Proofs.YtgjbebfcbpfngaaDoor
set_option maxRecDepth 100000
open Go.ChangeShapes Go.WideShapes Go.ChangeAt Go.RowKit
set_option linter.unusedVariables false

theorem ownC : ownKnob Tryd.prog.godebug = none := by kernel_rfl
theorem laidOutC : laidOutB Tryd.prog = true := by kernel_rfl
noncomputable def low : Nat := (World.holding Tryd.prog default ⟨#[], #[], []⟩).heap.size
abbrev endS : ByteArray := { data := #[116, 104, 101, 114, 101, 32, 105, 115, 32, 110, 111, 32, 98, 121, 116, 101, 32, 108, 101, 102, 116] }
abbrev endlessS : ByteArray := { data := #[116, 104, 101, 32, 110, 117, 109, 98, 101, 114, 32, 104, 97, 115, 32, 110, 111, 32, 108, 97, 115, 116, 32, 98, 121, 116, 101, 32, 119, 104, 101, 114, 101, 32, 105, 116, 32, 109, 117, 115, 116, 32, 104, 97, 118, 101, 32, 111, 110, 101] }
abbrev shorterS : ByteArray := { data := #[116, 104, 101, 32, 110, 117, 109, 98, 101, 114, 32, 99, 111, 117, 108, 100, 32, 98, 101, 32, 115, 104, 111, 114, 116, 101, 114] }
abbrev manyS : ByteArray := { data := #[116, 104, 101, 114, 101, 32, 97, 114, 101, 32, 109, 111, 114, 101, 32, 83, 101, 97, 108, 115, 32, 116, 104, 97, 110, 32, 109, 97, 121, 32, 98, 101] }
def layAt (v : Value) : Obj → Obj
  | .cells _ t frozen => .cells #[v] t frozen
  | o => o
/-- A world that meets the condition. -/
noncomputable def laidWorld (os : Os) : World :=
  let w0 := World.holding Tryd.prog os ⟨#[.cells #[.string endS] 176, .cells #[.string endlessS] 176, .cells #[.string shorterS] 176, .cells #[.string manyS] 176], #[], []⟩
  { w0 with heap := ((((w0.heap.modify 2 (layAt (.iface 139 (.agg #[.pointer (some ⟨5, 69, none⟩)])))).modify 0 (layAt (.iface 154 (.pointer (some ⟨low, 0, none⟩))))).modify 4 (layAt (.iface 154 (.pointer (some ⟨low + 1, 0, none⟩))))).modify 3 (layAt (.iface 154 (.pointer (some ⟨low + 2, 0, none⟩))))).modify 1 (layAt (.iface 154 (.pointer (some ⟨low + 3, 0, none⟩)))) }
theorem laidWorld_met (os : Os) (args : Array Value) : laidMetH Tryd.prog laidL ((laidWorld os).forCall (fun _ _ => 0) ⟨#[], args, []⟩).memory :=
  laidMetH_of_parts (laidMet_of_run' 8 (by kernel_rfl) (by kernel_rfl)) (by kernel_rfl)

/-- What the reading of bytes that came in tells: their list. -/
theorem bytes_readL {H : Type} {enc : TypeId × Value → H} {W : World} {r : Reach} {b0 : Nat} {v : Value} {d : DataW H} {p : List MemPlace} (hv : Value.okWide Tryd.prog W r b0 22 v) (h : DataW.Trod enc Tryd.prog W 0 (fun _ => true) true 22 v d p) :
    ∃ (A : Option Addr) (n cap : Nat) (bs : List Int), v = .slice A n cap ∧ BRow W W.heap.size A n bs ∧ Bys bs ∧ n ≤ maxLen := by
  obtain ⟨a0, len0, cap0, rfl⟩ := okWide_slice Tryd.underlying22 hv
  obtain ⟨fuel, hf⟩ := h
  rcases open_ints Tryd.underlying22 Tryd.underlying5 (by kernel_rfl) hf with ⟨e4, _⟩ | ⟨a, len, cap, zs, e4, _, hl, hm, hz, _, hcell, hwz⟩
  · simp [Value.cells] at e4
    obtain ⟨rfl, rfl, rfl⟩ := e4
    exact ⟨none, 0, 0, [], rfl, ⟨rfl, fun h => absurd h (by omega)⟩, fun x hx => by simp at hx, by unfold maxLen; omega⟩
  · simp [Value.cells] at e4
    obtain ⟨rfl, rfl, rfl⟩ := e4
    have hzc : zs.length = cap0 := by simpa using hz
    refine ⟨_, _, _, zs.take len0, rfl, ⟨by simp; omega, fun hn => ?_⟩, fun x hx => ?_, by omega⟩
    · obtain ⟨b, o, spot⟩ := a
      have hc0 := hcell 0 (by omega)
      have hs : spot = none := by simpa [Addr.add] using World.cell?_spot hc0
      subst hs
      refine ⟨b, o, rfl, ?_, fun i hi => ?_⟩
      · have := block_lt_of_cell hc0
        simpa [Addr.add] using this
      · have hci := hcell i (by omega)
        have ea : (⟨b, o, none⟩ : Addr).add i = ⟨b, o + i, none⟩ := by
          unfold Addr.add
          split
          · simp_all
          · rfl
        rw [ea] at hci
        rw [hci]
        congr 2
        simp [nth, hi]
    · have hb := bounds_u8 (hwz _ (List.mem_of_mem_take hx))
      exact ⟨hb.1, by have := hb.2; omega⟩

end Go.Proofs.YtgjbebfcbpfngaaDoor

/- A struct of one-cell fields that comes in is read field by field; two facts of the program's own; no conditions. -/
namespace Go.Proofs.YtgjbebfcbpfngaaDoor
open Go.ChangeShapes Go.WideShapes Go.ChangeAt Go.RowKit Go.Deep
set_option linter.unusedVariables false

/-- A struct of one-cell fields, by value: its cells, each with its own reading. -/
theorem one_fields {H : Type} {enc : TypeId × Value → H} {P : Program} {W : World} {r : Reach} {b0 : Nat} {t : TypeId} {fs : Array Field} {v : Value} {d : DataW H} {p : List MemPlace} (hs : P.underlying t = some (.struct fs)) (hone : oneCellFields P fs = true) (hC : P.cellsOf t = fs.size)
    (hv : Value.okWide P W r b0 t v) (h : DataW.Trod enc P W 0 (fun _ => true) true t v d p) :
    ∃ (l : List Value) (m : Nat), v = .agg l.toArray ∧ l.length = fs.size ∧ ∀ (i : Nat) (f : Field) (u : Value), fs[i]? = some f → l[i]? = some u → ∃ y, DataW.trod enc P W 0 (fun _ => true) true m f.type [u] = some y := by
  obtain ⟨cs, rfl, hsz⟩ := okWide_struct hs hv
  obtain ⟨fuel, hf⟩ := h
  obtain ⟨xs, m, _, _, _, hxl, hg⟩ := DataW.trod_struct hs hf
  obtain ⟨l⟩ := cs
  refine ⟨l, m, rfl, by simpa using hsz.trans hC, fun i f u hi hu => ?_⟩
  have h1 := hg i f hi
  obtain ⟨ho, hk⟩ := hone_of hone i f hi
  rw [ho, hk] at h1
  have e : ((Value.agg (List.toArray l)).cells.toList.drop i).take 1 = [u] := by
    show (l.drop i).take 1 = [u]
    rw [List.take_one, List.head?_drop, hu]
    rfl
  rw [e] at h1
  have hlt : i < xs.length := by rw [hxl]; exact (Array.getElem?_eq_some_iff.1 hi).1
  exact ⟨_, h1.trans (List.getElem?_eq_getElem hlt)⟩

/-- Whatever struct, its cells laid out: each field's own cells with their own reading. -/
theorem sub_fields {H : Type} {enc : TypeId × Value → H} {P : Program} {W : World} {t : TypeId} {fs : Array Field} {fuel : Nat} {cs : List Value} {x : DataW H × List MemPlace} (hs : P.underlying t = some (.struct fs)) (h : DataW.trod enc P W 0 (fun _ => true) true fuel t cs = some x) :
    ∃ m, ∀ (i : Nat) (f : Field), fs[i]? = some f → ∃ y, DataW.trod enc P W 0 (fun _ => true) true m f.type ((cs.drop f.offset).take (P.cellsOf f.type)) = some y := by
  obtain ⟨xs, m, _, _, _, hxl, hg⟩ := DataW.trod_struct hs h
  refine ⟨m, fun i f hi => ?_⟩
  have h1 := hg i f hi
  have hlt : i < xs.length := by rw [hxl]; exact (Array.getElem?_eq_some_iff.1 hi).1
  exact ⟨_, h1.trans (List.getElem?_eq_getElem hlt)⟩

theorem own : ownKnob Tryd.prog.godebug = none := by kernel_rfl
theorem laidOut : laidOutB Tryd.prog = true := by kernel_rfl

end Go.Proofs.YtgjbebfcbpfngaaDoor

/- A group that comes in is read as four numbers and a row of keys. -/
namespace Go.Proofs.YtgjbebfcbpfngaaDoor
set_option maxRecDepth 100000
open Go.ChangeShapes Go.WideShapes Go.ChangeAt Go.RowKit Go.Deep
set_option linter.unusedVariables false

/-- What the reading of a group that came in tells: its four numbers, and its keys as a row. -/
theorem group_read {H : Type} {enc : TypeId × Value → H} {W : World} {r : Reach} {b0 : Nat} {v : Value} {d : DataW H} {p : List MemPlace} (hv : Value.okWide Tryd.prog W r b0 42 v) (h : DataW.Trod enc Tryd.prog W 0 (fun _ => true) true 42 v d p) :
    ∃ (s l c sh : Int) (A : Option Addr) (n cap : Nat) (zs : List Int), v = .agg #[.int .i64 s, .int .i64 l, .int .i64 c, .int .i64 sh, .slice A n cap] ∧ Row W W.heap.size A n zs ∧ n ≤ maxLen := by
  obtain ⟨l0, m, rfl, h5, get⟩ := one_fields Tryd.underlying42 (by kernel_rfl) (by kernel_rfl) hv h
  have h5 : l0.length = 5 := h5
  obtain ⟨c0, l1, rfl⟩ : ∃ c0 l1, l0 = c0 :: l1 := List.exists_cons_of_length_pos (by omega)
  obtain ⟨c1, l2, rfl⟩ : ∃ c0 l2, l1 = c0 :: l2 := List.exists_cons_of_length_pos (by simp only [List.length_cons] at h5; omega)
  obtain ⟨c2, l3, rfl⟩ : ∃ c0 l3, l2 = c0 :: l3 := List.exists_cons_of_length_pos (by simp only [List.length_cons] at h5; omega)
  obtain ⟨c3, l4, rfl⟩ : ∃ c0 l4, l3 = c0 :: l4 := List.exists_cons_of_length_pos (by simp only [List.length_cons] at h5; omega)
  obtain ⟨c4, l5, rfl⟩ : ∃ c0 l5, l4 = c0 :: l5 := List.exists_cons_of_length_pos (by simp only [List.length_cons] at h5; omega)
  obtain rfl : l5 = [] := List.eq_nil_of_length_eq_zero (by simp only [List.length_cons] at h5; omega)
  obtain ⟨y0, g0⟩ := get 0 _ _ rfl rfl
  obtain ⟨y1, g1⟩ := get 1 _ _ rfl rfl
  obtain ⟨y2, g2⟩ := get 2 _ _ rfl rfl
  obtain ⟨y3, g3⟩ := get 3 _ _ rfl rfl
  obtain ⟨y4, g4⟩ := get 4 _ _ rfl rfl
  obtain ⟨s, e0, _, _⟩ := DataW.trod_int Tryd.underlying2 g0
  obtain ⟨l, e1, _, _⟩ := DataW.trod_int Tryd.underlying2 g1
  obtain ⟨c, e2, _, _⟩ := DataW.trod_int Tryd.underlying2 g2
  obtain ⟨sh, e3, _, _⟩ := DataW.trod_int Tryd.underlying2 g3
  simp only [List.cons.injEq, and_true] at e0 e1 e2 e3
  subst e0 e1 e2 e3
  rcases open_ints Tryd.underlying24 Tryd.underlying2 (by kernel_rfl) g4 with ⟨e4, _⟩ | ⟨a, len, cap, zs, e4, _, hl, hm, hz, _, hcell, _⟩
  · simp only [List.cons.injEq, and_true] at e4
    subst e4
    exact ⟨s, l, c, sh, none, 0, 0, [], rfl, ⟨rfl, fun h => absurd h (by omega)⟩, by unfold maxLen; omega⟩
  · simp only [List.cons.injEq, and_true] at e4
    subst e4
    have hzc : zs.length = cap := by simpa using hz
    refine ⟨s, l, c, sh, some a, len, cap, zs.take len, rfl, ⟨by rw [List.length_take]; omega, fun hn => ?_⟩, by omega⟩
    obtain ⟨b, o, spot⟩ := a
    have hc0 := hcell 0 (by omega)
    have hs : spot = none := by simpa [Addr.add] using World.cell?_spot hc0
    subst hs
    refine ⟨b, o, rfl, ?_, fun i hi => ?_⟩
    · have := block_lt_of_cell hc0
      simpa [Addr.add] using this
    · have hci := hcell i (by omega)
      have ea : (⟨b, o, none⟩ : Addr).add i = ⟨b, o + i, none⟩ := by
        unfold Addr.add
        split
        · simp_all
        · rfl
      rw [ea] at hci
      rw [hci]
      have : nth (zs.take len) i = zs.getD i 0 := by simp [nth, hi]
      rw [this]

end Go.Proofs.YtgjbebfcbpfngaaDoor

namespace Go.Proofs.YtgjbebfcbpfngaaDoor
open Go.ChangeShapes Go.WideShapes Go.ChangeAt Go.RowKit
set_option linter.unusedVariables false

namespace fnExactReadNoteF
set_option maxRecDepth 100000 in
theorem lifted (os : Os) (started : os.Started) (H : Type) (enc : TypeId × Value → H) :
    ReturnsInHanded {} Tryd.checked os 5 .any (fun w args => (Rows.fnExactReadNoteSpec.pre enc Tryd.prog Tryd.f5 [] false w args ∧ laidMetH Tryd.prog laidL w) ∧ sizedMet enc Tryd.prog Tryd.f5 (OpenSpec.ofChange Rows.fnExactReadNoteSpec) false w args)
      (Rows.fnExactReadNoteSpec.post enc Tryd.prog Tryd.f5 false true false false) := by
  refine returnsInHanded_of_change_and (C := Tryd.checked) (X := fun w _ => laidMetH Tryd.prog laidL w) (fun _ _ _ hh h => h.of_heap hh) ownC started (by kernel_rfl) Tryd.func5
    (ChangeSpec.witness_at (enc := enc) (C := Tryd.checked) (os := os) (X := fun w _ => laidMetH Tryd.prog laidL w) false (laidWorld os) #[.agg #[.int .i64 0, .int .i64 0, .int .i64 0, .int .i64 0, .slice none 0 0], .slice none 0 0] 8 rfl (by kernel_rfl) (by kernel_rfl) (by kernel_rfl) (by kernel_rfl) (by kernel_rfl) (laidWorld_met os _)) ?_
  intro W base args ds gs before hval0 hW _ _ hL _
  have hval : ∀ (j : Nat) t v, Tryd.f5.params[j]? = some t → args[j]? = some v → Value.okWide Tryd.prog W .any base t v := hval0
  have hW' := hW
  obtain ⟨p, q, hA0, hV0, rfl, hfz, hnd⟩ := hW
  have hA : DataW.TrodAll enc Tryd.prog W 0 (fun _ => true) true Tryd.f5.params.toList args.toList ds p := hA0
  have hV : DataW.TrodVars enc Tryd.prog W (fun _ => true) ["loop.example/g00695/impl.errEnd", "loop.example/g00695/impl.errShorter", "loop.example/g00695/impl.errEndless", "loop.example/g00695/impl.errManySeals"] gs q := hV0
  rw [Tryd.params5] at hA hval
  obtain ⟨v0, vs0, d0, ds0, p0, q0, hargs, rfl, rfl, h0, r0⟩ := trodAll_cons hA
  obtain ⟨v1, vs1, d1, ds1, p1, q1, rfl, rfl, rfl, h1, r1⟩ := trodAll_cons r0
  obtain ⟨rfl, rfl, rfl⟩ := trodAll_nil r1
  obtain rfl : args = #[v0, v1] := by cases args; simp_all
  obtain ⟨aE, aM, aS, aL, hE, x0, x1, x2, x3⟩ := errs_of_laid hL
  obtain ⟨rfl, rfl⟩ := hV.unique (vars_read4 enc x0 x1 x2 x3 _)
  have t0 := h0
  have lt0 : ∀ x ∈ p0, x.block < W.heap.size := by obtain ⟨m, hm⟩ := t0; exact DataW.trod_lt m _ _ _ hm
  obtain ⟨s0, l0, c0, sh0, A0, n0, cap0, zs0, rfl, hp0, hm0⟩ := group_read (hval 0 42 v0 rfl rfl) h0
  have t1 := h1
  have lt1 : ∀ x ∈ p1, x.block < W.heap.size := by obtain ⟨m, hm⟩ := t1; exact DataW.trod_lt m _ _ _ hm
  obtain ⟨P1, m1, pc1, bs1, rfl, hb1, hB1, hm1⟩ := bytes_readL (hval 1 22 v1 rfl rfl) h1
  clear hA0 hval0 hV0
  have walk : Calls Tryd.prog 5 #[.agg #[.int .i64 s0, .int .i64 l0, .int .i64 c0, .int .i64 sh0, .slice A0 n0 cap0], .slice P1 m1 pc1] W fun e w' => e = .returned (.bool true) ∧ Below W.heap.size W w' := by
    by_cases hbig : n0 ≤ 1048576 ∧ m1 ≤ 1048576
    · exact exactRead_small aE aM aS aL s0 l0 c0 sh0 A0 n0 cap0 zs0 P1 m1 pc1 bs1 W hE hbig.1 hbig.2 hp0 hb1 hB1
    · exact exactRead_big s0 l0 c0 sh0 A0 n0 cap0 P1 m1 pc1 W hm0 hm1 (by omega)
  refine walk.mono fun e W' ⟨he, bel⟩ => ?_
  subst he
  exact ⟨_, rfl, _, _, _, [], _, [.cell 0 0, .cell 3 0, .cell 4 0, .cell 1 0], hW', trodAll_mk1 (shut_bool Tryd.underlying4 _), (trodAll_cons_mk (Below.trod laidOutC (by kernel_rfl) (of_decide_eq_true (by kernel_rfl)) t0 bel lt0) (trodAll_cons_mk (Below.trod laidOutC (by kernel_rfl) (of_decide_eq_true (by kernel_rfl)) t1 bel lt1) trodAll_mk0)), vars_read4 enc (var_below Tryd.gE x0 bel) (var_below Tryd.gS x1 bel) (var_below Tryd.gL x2 bel) (var_below Tryd.gM x3 bel) _, bel.frame _, fun h => by cases h⟩

theorem row : Rows.FnExactReadNoteSaid :=
  OpenClaim.holds_of_wide 5 Tryd.f5 rfl rfl rfl rfl rfl rfl rfl ⟨rfl, rfl, rfl, rfl, rfl⟩ rfl rfl rfl rfl rfl (by kernel_rfl) Tryd.func5 (by kernel_rfl)
    (of_decide_eq_true (by kernel_rfl)) (by unfold Func.isWrapper; first | (rw [if_neg (of_decide_eq_false (by kernel_rfl))]; exact ⟨rfl, rfl⟩) | (rw [if_pos (by decide +kernel)]; kernel_rfl))
    (fun os started H enc _ => lifted os started H enc)
theorem proved : Rows.FnExactReadNoteCardSaid :=
  Claim7.holds_tied_plain_at .later [] [.handle, .sentinel, .sentinel, .sentinel, .sentinel] true (true, "deae2e7abdfd6784a1fe9ad8db39c88f02ddd34d0aa759db843d15582834d2b4") true
    row (fun _ h => by cases h) (by kernel_rfl) (fun _ h => by cases h) fnExactReadNote_row_tie rfl ⟨rfl, rfl⟩ (by kernel_rfl) rfl
    (fun f fn hf hfn => by
      obtain rfl : f = 5 := Option.some.inj ((show Tryd.prog.funcNamed "loop.example/g00695/laws.FnExactReadNote" = some 5 by kernel_rfl).symm.trans hf) |>.symm
      obtain rfl : fn = Tryd.f5 := (Option.some.inj (Tryd.func5.symm.trans hfn)).symm
      exact ⟨by kernel_rfl, fun j t ht => by
        rw [Tryd.params5] at ht
        rcases j with _ | _ | j
        · obtain rfl : t = 42 := by simpa using ht.symm
          exact (show Tryd.prog.wantsStandIn 42 = false by kernel_rfl)
        · obtain rfl : t = 22 := by simpa using ht.symm
          exact (show Tryd.prog.wantsStandIn 22 = false by kernel_rfl)
        · simp at ht⟩)
    (by kernel_rfl)
end fnExactReadNoteF

theorem fnExactReadNote_holds : Rows.FnExactReadNoteCardSaid := fnExactReadNoteF.proved
end Go.Proofs.YtgjbebfcbpfngaaDoor
