/- What readNumber of impl/l06_wire.go answers: its contract; the conditions are where the errors lie. -/
import Derived.Test.YtgjbebfcbpfngaaDoorWireCut
import Derived.Test.YtgjbebfcbpfngaaDoorWire3
import Derived.Test.YtgjbebfcbpfngaaDoorWireErr
import Derived.BigQuiet
import Derived.Deep.QuietTactic
import Derived.Test.YtgjbebfcbpfngaaDoorSpecStamp
import Derived.Deep.RegionWith
import Derived.Test.YtgjbebfcbpfngaaDoorNoteShape
namespace Go.Proofs.YtgjbebfcbpfngaaDoor
open Go.RowKit Go.Deep

/-- An error of errors.New's make. -/
abbrev ev (a : Addr) : Value := .iface 154 (.pointer (some a))
/-- The package's errors, all in blocks below B. -/
structure Errs (w : World) (B : Nat) (aE aM aS aL : Addr) : Prop where
  e0 : w.cell? ⟨0, 0, none⟩ = some (.iface 154 (.pointer (some aE)))
  e1 : w.cell? ⟨1, 0, none⟩ = some (.iface 154 (.pointer (some aM)))
  e2 : w.cell? ⟨2, 0, none⟩ = some (.iface 139 (.agg #[.pointer (some ⟨5, 69, none⟩)]))
  e3 : w.cell? ⟨3, 0, none⟩ = some (.iface 154 (.pointer (some aS)))
  e4 : w.cell? ⟨4, 0, none⟩ = some (.iface 154 (.pointer (some aL)))
  hE : ∃ c t, w.heap[aE.block]? = some (.cells c t (0, 0))
  hM : ∃ c t, w.heap[aM.block]? = some (.cells c t (0, 0))
  hS : ∃ c t, w.heap[aS.block]? = some (.cells c t (0, 0))
  hL : ∃ c t, w.heap[aL.block]? = some (.cells c t (0, 0))
  nM : aM ≠ aE
  nS : aS ≠ aE
  nL : aL ≠ aE
  lt : 4 < B ∧ aE.block < B ∧ aM.block < B ∧ aS.block < B ∧ aL.block < B
theorem Errs.keep {w w' : World} {B : Nat} {aE aM aS aL : Addr} (h : Errs w B aE aM aS aL) (hk : ∀ k, k < B → w'.heap[k]? = w.heap[k]?) : Errs w' B aE aM aS aL := by
  obtain ⟨e0, e1, e2, e3, e4, hE, hM, hS, hL, nM, nS, nL, lt⟩ := h
  exact ⟨(World.cell?_of_block (w := w) (hk 0 (by omega))).trans e0, (World.cell?_of_block (w := w) (hk 1 (by omega))).trans e1, (World.cell?_of_block (w := w) (hk 2 (by omega))).trans e2, (World.cell?_of_block (w := w) (hk 3 (by omega))).trans e3, (World.cell?_of_block (w := w) (hk 4 (by omega))).trans e4,
    by rw [hk _ lt.2.1]; exact hE, by rw [hk _ lt.2.2.1]; exact hM, by rw [hk _ lt.2.2.2.1]; exact hS, by rw [hk _ lt.2.2.2.2]; exact hL, nM, nS, nL, lt⟩
theorem Errs.later {w w' : World} {B C : Nat} {aE aM aS aL : Addr} (h : Errs w B aE aM aS aL) (hb : Below C w w') (hBC : B ≤ C) : Errs w' B aE aM aS aL := h.keep fun k hk => hb.block k (by omega)
theorem Errs.kept {w w' : World} {B r : Nat} {aE aM aS aL : Addr} (h : Errs w B aE aM aS aL) (hg : w.grownBy w' (some r)) (hB : B ≤ w.heap.size) (hr : B ≤ r) : Errs w' B aE aM aS aL :=
  h.keep fun k hk => hg.block k (by omega) (by intro e; injection e with e; omega)

/-- How far a number is read: i bytes of it, N so far, the next one's worth W. -/
def RdAt (r : List Int) (i : Nat) (N W : Int) : Prop := num r = (numF (5 - i) (decide (i = 0)) (r.drop i)).map fun p => (N + p.1 * W, p.2 + i)
theorem RdAt.start (r : List Int) : RdAt r 0 0 1 := by
  unfold RdAt num
  cases e : numF 5 true r with
  | none => simp [e]
  | some p => simp [e]
theorem drop_nth {r : List Int} {i : Nat} (h : i < r.length) : r.drop i = nth r i :: r.drop (i + 1) := by
  rw [nth_lt h]; exact List.drop_eq_getElem_cons h
theorem RdAt.short {r : List Int} {i : Nat} {N W : Int} (h : RdAt r i N W) (hi : i < r.length) (h5 : i < 5) (hz : nth r i = 0) (h0 : 0 < i) : num r = none := by
  unfold RdAt at h
  obtain ⟨f, hf⟩ : ∃ f, 5 - i = f + 1 := ⟨4 - i, by omega⟩
  rw [h, drop_nth hi, hf, numF, if_pos ⟨hz, by simp; omega⟩]
  rfl
theorem RdAt.last {r : List Int} {i : Nat} {N W z : Int} (h : RdAt r i N W) (hi : i < r.length) (h5 : i < 5) (hz : nth r i = z) (hn : ¬ (z = 0 ∧ 0 < i)) (hlt : z < 128) : num r = some (N + z * W, i + 1) := by
  unfold RdAt at h
  obtain ⟨f, hf⟩ : ∃ f, 5 - i = f + 1 := ⟨4 - i, by omega⟩
  rw [h, drop_nth hi, hf, numF, if_neg (by rw [hz]; intro e; exact hn ⟨e.1, by simpa [Nat.pos_iff_ne_zero] using e.2⟩), if_pos (by rw [hz]; exact hlt), hz]
  simp [Nat.add_comm]
theorem RdAt.step {r : List Int} {i : Nat} {N W z : Int} (h : RdAt r i N W) (hi : i < r.length) (h5 : i < 5) (hz : nth r i = z) (hge : ¬ z < 128) : RdAt r (i + 1) (N + (z - 128) * W) (W * 128) := by
  unfold RdAt at h ⊢
  obtain ⟨f, hf⟩ : ∃ f, 5 - i = f + 1 := ⟨4 - i, by omega⟩
  have hf' : 5 - (i + 1) = f := by omega
  rw [h, drop_nth hi, hf, numF, if_neg (by rw [hz]; omega), if_neg (by rw [hz]; exact hge), hz, hf']
  have : decide (i + 1 = 0) = false := by simp
  rw [this]
  cases numF f false (r.drop (i + 1)) with
  | none => rfl
  | some p =>
    simp only [Option.map_some, Option.some.injEq, Prod.mk.injEq]
    refine ⟨?_, by omega⟩
    rw [Int.add_mul (z - 128) (128 * p.1) W, Int.add_assoc]
    congr 2
    rw [Int.mul_comm 128 p.1, Int.mul_assoc, Int.mul_comm 128 W]
theorem RdAt.none5 {r : List Int} {N W : Int} (h : RdAt r 5 N W) : num r = none := by unfold RdAt at h; rw [h]; rfl
theorem RdAt.noneEnd {r : List Int} {i : Nat} {N W : Int} (h : RdAt r i N W) (hi : r.length ≤ i) : num r = none := by
  unfold RdAt at h
  rw [h, List.drop_eq_nil_of_le hi]
  cases 5 - i <;> rfl

/-- What readNumber leaves. -/
def RdPost (w : World) (aE aS aL : Addr) (r : List Int) (e : Ending) (w' : World) : Prop :=
  Below w.heap.size w w' ∧ ((∃ (x : Int) (k : Nat), num r = some (x, k) ∧ e = .returned (.tuple #[.int .i64 x, .int .i64 k, .nilIface])) ∨
    (num r = none ∧ ∃ a, e = .returned (.tuple #[.int .i64 0, .int .i64 0, .iface 154 (.pointer (some a))]) ∧ ((r = [] ∧ a = aE) ∨ (r ≠ [] ∧ (a = aS ∨ a = aL)))))

theorem rd_nil (aE aM aS aL : Addr) (B : Nat) (A : Option Addr) (cap : Nat) (w : World) (hE : Errs w B aE aM aS aL) :
    Calls Tryd.prog 99 #[.slice A 0 cap] w (RdPost w aE aS aL []) := by
  have e0 := hE.e0
  go_enter Tryd.func99, Tryd.ntmps99
  go_wp2_with fail
  go_quiet (fail)
  go_wp2
  refine bodyPost_ret (v := .tuple #[.int .i64 0, .int .i64 0, .iface 154 (.pointer (some aE))]) (by simp [results, Tryd.results99, go_sem]) rfl ?_
  exact ⟨bel_drewN (Below.refl _ _) _, .inr ⟨rfl, aE, rfl, .inl ⟨rfl, rfl⟩⟩⟩

set_option maxRecDepth 100000 in
set_option maxHeartbeats 4000000 in
theorem rd_some (aE aM aS aL : Addr) (B b o n m cap : Nat) (r : List Int) (w : World) (hE : Errs w B aE aM aS aL) (hl : r.length = n) (hc : ∀ i, i < n → w.cell? ⟨b, o + i, none⟩ = some (.int .u8 (nth r i))) (hB : Bys r) (hn : 0 < n) (hx : n ≤ maxLen) (hcap : n ≤ cap) (hm : m = min n 5) :
    Calls Tryd.prog 99 #[.slice (some ⟨b, o, none⟩) n cap] w (RdPost w aE aS aL r) := by
  unfold maxLen at hx
  have e3 := hE.e3
  have e4 := hE.e4
  have HL := Lib.hid hl
  have HC := Lib.hid hc
  have HB := Lib.hid hB
  have HR : Hid (r ≠ []) := Lib.hid (by intro e; subst e; simp at hl; omega)
  have m0 : 0 < m := by omega
  have m5 : m ≤ 5 := by omega
  have mn : m ≤ n := by omega
  have mz := Lib.hid (show m < 5 → m = n by omega)
  clear hl hc hB hE
  have hn0 : ((n : Int) == 0) = false := by simp; omega
  have HM := Lib.hid hm
  clear hm
  go_enter Tryd.func99, Tryd.ntmps99
  go_upto_region 4 with fail
  go_cut [17, 18, 19] (fun v u i wr => v = .slice (some ⟨b, o, none⟩) m cap ∧ u = .int .i64 m ∧ i = .int .i64 0 ∧ w = wr)
  case first =>
    rcases Nat.lt_or_ge 5 n with h5 | h5
    · obtain rfl : m = 5 := by have := HM.out; omega
      have h5' : ¬ (n : Int) ≤ 5 := by omega
      go_wp2_with fail
      go_meet
      exact ⟨rfl, rfl, rfl, rfl⟩
    · obtain rfl : m = n := by have := HM.out; omega
      have h5' : (m : Int) ≤ 5 := by omega
      go_wp2_with fail
      go_meet
      exact ⟨rfl, rfl, rfl, rfl⟩
  case rest =>
  obtain ⟨rfl, rfl, rfl, rfl⟩ := hcut
  go_wp2_with fail
  go_loopw [5, 6, 19] (fun nv wv iv wr => ∃ (i : Nat) (N W : Int), i ≤ m ∧ nv = .int .i64 N ∧ wv = .int .i64 W ∧ iv = .int .i64 i ∧ 0 ≤ N ∧ N < W ∧ W = 128 ^ i ∧ Hid (RdAt r i N W) ∧ w = wr) (fun _ _ i _ => m - (intOf i).toNat)
  case atStart => exact ⟨0, 0, 1, Nat.zero_le _, rfl, rfl, rfl, by omega, by omega, rfl, Lib.hid (RdAt.start r), rfl⟩
  case round =>
    obtain ⟨i, N, W, hi, rfl, rfl, rfl, hN0, hNW, hW, hrd, rfl⟩ := hrel
    by_cases hlt : i < m
    · have hWb : 1 ≤ W ∧ W ≤ 268435456 := by
        obtain rfl | rfl | rfl | rfl | rfl : i = 0 ∨ i = 1 ∨ i = 2 ∨ i = 3 ∨ i = 4 := by omega
        all_goals (subst hW; decide)
      obtain ⟨hW1, hW2⟩ := hWb
      have hlt' : (i : Int) < (m : Int) := by omega
      have hir : Hid (i < r.length) := Lib.hid (by rw [HL.out]; omega)
      have c0 := HC.out i (by omega)
      have hz := HB.out (nth r i) (by rw [nth_lt hir.out]; exact List.getElem_mem _)
      generalize hzz : nth r i = z at c0 hz
      obtain ⟨hz0, hz1⟩ := hz
      replace hzz := Lib.hid hzz
      replace hW := Lib.hid hW
      by_cases h0 : z = 0
      · by_cases hi0 : 0 < i
        · have hno := Lib.hid (hrd.out.short hir.out (by omega) (by rw [hzz.out]; exact h0) hi0)
          subst h0
          have hi0' : (0 : Int) < (i : Int) := by omega
          go_wp2_with fail
          go_quiet (fail)
          go_wp2
          refine bodyPost_ret (v := .tuple #[.int .i64 0, .int .i64 0, .iface 154 (.pointer (some aS))]) (by simp [results, Tryd.results99, go_sem]) rfl ?_
          exact ⟨bel_drewN (Below.refl _ _) _, .inr ⟨hno.out, aS, rfl, .inr ⟨HR.out, .inl rfl⟩⟩⟩
        · have hsm := Lib.hid (hrd.out.last hir.out (by omega) hzz.out (by omega) (by omega))
          subst h0
          have hi0' : ¬ (0 : Int) < (i : Int) := by omega
          go_wp2
          refine bodyPost_ret (v := .tuple #[.int .i64 N, .int .i64 (i + 1), .nilIface]) (by simp [results, Tryd.results99, go_sem]) rfl ?_
          exact ⟨Below.refl _ _, .inl ⟨N, i + 1, by simpa using hsm.out, by simp⟩⟩
      · have h0' : (z == 0) = false := by simpa using h0
        have hzW : 0 ≤ z * W := Int.mul_nonneg hz0 (by omega)
        have hzW2 : z * W ≤ 255 * 268435456 := Int.mul_le_mul hz1 hW2 (by omega) (by omega)
        by_cases h128 : z < 128
        · have hsm := Lib.hid (hrd.out.last hir.out (by omega) hzz.out (by omega) h128)
          go_wp2
          refine bodyPost_ret (v := .tuple #[.int .i64 (N + z * W), .int .i64 (i + 1), .nilIface]) (by simp [results, Tryd.results99, go_sem]) rfl ?_
          exact ⟨Below.refl _ _, .inl ⟨N + z * W, i + 1, hsm.out, by simp⟩⟩
        · have hst := Lib.hid (hrd.out.step hir.out (by omega) hzz.out h128)
          have hq0 : 0 ≤ (z - 128) * W := Int.mul_nonneg (by omega) (by omega)
          have hq1 : (z - 128) * W ≤ 127 * W := Int.mul_le_mul_of_nonneg_right (by omega) (by omega)
          have hw8 : IntKind.u8.wrap (z - 128) = z - 128 := by rw [IntKind.wrap_u8]; omega
          go_wp2
          go_roundw
          case rel => exact ⟨i + 1, N + (z - 128) * W, W * 128, by omega, rfl, rfl, by go_num, by omega, by omega, by rw [hW.out, Int.pow_succ], hst, trivial⟩
          case measure => simp [intOf]; omega
    · have hno : Hid (num r = none) := Lib.hid (by
        obtain rfl : i = m := by omega
        by_cases h5 : i = 5
        · subst h5; exact hrd.out.none5
        · exact hrd.out.noneEnd (by rw [HL.out]; have := mz.out (by omega); omega))
      have hlt' : ¬ (i : Int) < (m : Int) := by omega
      replace hW := Lib.hid hW
      go_wp2_with fail
      go_quiet (fail)
      go_wp2
      refine bodyPost_ret (v := .tuple #[.int .i64 0, .int .i64 0, .iface 154 (.pointer (some aL))]) (by simp [results, Tryd.results99, go_sem]) rfl ?_
      exact ⟨bel_drewN (Below.refl _ _) _, .inr ⟨hno.out, aL, rfl, .inr ⟨HR.out, .inr rfl⟩⟩⟩

theorem readNumber_is (aE aM aS aL : Addr) (B C : Nat) (A : Option Addr) (n cap : Nat) (r : List Int) (w : World) (hE : Errs w B aE aM aS aL) (hr : BRow w C A n r) (hB : Bys r) (hx : n ≤ maxLen) (hcap : n ≤ cap) :
    Calls Tryd.prog 99 #[.slice A n cap] w (RdPost w aE aS aL r) := by
  rcases Nat.eq_zero_or_pos n with h | h
  · subst h
    obtain rfl : r = [] := List.length_eq_zero_iff.1 hr.1
    exact rd_nil aE aM aS aL B A cap w hE
  · obtain ⟨b, o, rfl, _, hc⟩ := hr.2 h
    exact rd_some aE aM aS aL B b o n (min n 5) cap r w hE hr.1 hc hB h hx hcap rfl

end Go.Proofs.YtgjbebfcbpfngaaDoor

/- What stop and number of a cursor of impl/l06_wire.go answer: contracts of each of them; the conditions are where the errors lie. -/
namespace Go.Proofs.YtgjbebfcbpfngaaDoor
open Go.RowKit Go.Deep

theorem BRow.drop {w : World} {C b o n j : Nat} {r : List Int} (h : BRow w C (some ⟨b, o, none⟩) n r) (hj : j ≤ n) : BRow w C (some ⟨b, o + j, none⟩) (n - j) (r.drop j) := by
  refine ⟨by rw [List.length_drop, h.1], fun hn => ?_⟩
  obtain ⟨b', o', hA, hb, hc⟩ := h.2 (by omega)
  cases hA
  refine ⟨_, _, rfl, hb, fun i hi => ?_⟩
  have h1 := hc (j + i) (by omega)
  rw [Nat.add_assoc, h1]
  have : nth (r.drop j) i = nth r (j + i) := by simp [nth, List.getElem?_drop]
  rw [this]
theorem BRow.dropEnd {w : World} {C n j : Nat} {A A' : Option Addr} {r : List Int} (h : BRow w C A n r) (hj : n ≤ j) : BRow w C A' (n - j) (r.drop j) :=
  ⟨by rw [List.length_drop, h.1], fun hn => absurd hn (by omega)⟩
theorem stop_is (c : Nat) (A : Option Addr) (n cap : Nat) (k : Int) (err : Value) (a : Addr) (w : World) (h : Box w c 71 #[.slice A n cap, .int .i64 k, err]) :
    Calls Tryd.prog 98 #[.pointer (some ⟨c, 0, none⟩), .iface 154 (.pointer (some a))] w fun e w' => e = .returned (.tuple #[]) ∧ Box w' c 71 #[.slice A n cap, .int .i64 k, .iface 100 (.agg #[.int .i64 k, .iface 154 (.pointer (some a))])] ∧ w.grownBy w' (some c) := by
  obtain ⟨c0, c1, c2⟩ := h.three
  have fr := h.frozen
  have HB := Lib.hid (h.set 2 (.iface 100 (.agg #[.int .i64 k, .iface 154 (.pointer (some a))])))
  have HG := Lib.hid (grown_set (grown_refl w (some c)) 2 (.iface 100 (.agg #[.int .i64 k, .iface 154 (.pointer (some a))])))
  clear h
  go_enter Tryd.func98, Tryd.ntmps98
  go_wp2
  go_end0
  exact ⟨rfl, HB.out, HG.out⟩

theorem number_bad (c : Nat) (A : Option Addr) (n cap : Nat) (k j : Int) (a : Addr) (w : World) (hk0 : 0 ≤ k) (hk1 : k ≤ 100000) (h : Box w c 71 #[.slice A n cap, .int .i64 k, .iface 100 (.agg #[.int .i64 j, .iface 154 (.pointer (some a))])]) :
    Calls Tryd.prog 78 #[.pointer (some ⟨c, 0, none⟩)] w fun e w' => e = .returned (.int .i64 0) ∧ Box w' c 71 #[.slice A n cap, .int .i64 (k + 1), .iface 100 (.agg #[.int .i64 j, .iface 154 (.pointer (some a))])] ∧ w.grownBy w' (some c) := by
  obtain ⟨c0, c1, c2⟩ := h.three
  have fr := h.frozen
  have HB := Lib.hid (h.set 1 (.int .i64 (k + 1)))
  have HG := Lib.hid (grown_set (grown_refl w (some c)) 1 (.int .i64 (k + 1)))
  clear h
  go_enter Tryd.func78, Tryd.ntmps78
  go_wp2
  go_ret
  exact ⟨rfl, HB.out, HG.out⟩

/-- What number leaves where there is none. -/
def NoNum (w : World) (c : Nat) (A : Option Addr) (n cap : Nat) (k : Int) (aE aS aL : Addr) (r : List Int) (e : Ending) (w' : World) : Prop :=
  e = .returned (.int .i64 0) ∧ ∃ a, Box w' c 71 #[.slice A n cap, .int .i64 (k + 1), .iface 100 (.agg #[.int .i64 (k + 1), .iface 154 (.pointer (some a))])] ∧ ((r = [] ∧ a = aE) ∨ (r ≠ [] ∧ (a = aS ∨ a = aL))) ∧ w.grownBy w' (some c)
set_option maxHeartbeats 1000000 in
theorem number_no (aE aM aS aL : Addr) (B C c : Nat) (A : Option Addr) (n cap : Nat) (k : Int) (r : List Int) (w : World) (hk0 : 0 ≤ k) (hk1 : k ≤ 100000) (hE : Errs w B aE aM aS aL) (hBc : B ≤ c) (hr : BRow w C A n r) (hCc : C ≤ c) (hB : Bys r) (hx : n ≤ maxLen) (hcap : n ≤ cap) (h : Box w c 71 #[.slice A n cap, .int .i64 k, .nilIface]) (hno : num r = none) :
    Calls Tryd.prog 78 #[.pointer (some ⟨c, 0, none⟩)] w (NoNum w c A n cap k aE aS aL r) := by
  have hcl := h.lt
  obtain ⟨c0, c1, c2⟩ := h.three
  have fr := h.frozen
  have H1 := h.set 1 (.int .i64 (k + 1))
  have G1 := grown_set (grown_refl w (some c)) 1 (.int .i64 (k + 1))
  have HE := Lib.hid (hE.kept G1 (by omega) hBc)
  have HR := Lib.hid (hr.keep (w' := w.setCell ⟨c, 1, none⟩ (.int .i64 (k + 1))) (fun p hp => World.cell?_setCell_other _ _ _ _ (fun e => by rw [← e] at hp; exact absurd hp (by simp; omega))))
  have HBy := Lib.hid hB
  have HX := Lib.hid hx
  have HNO := Lib.hid hno
  clear h hE hr hB hx hno
  go_enter Tryd.func78, Tryd.ntmps78
  go_wp2_with fail
  generalize (w.setCell _ _ : World) = w1 at H1 G1 HE HR ⊢
  clear c0 c1 c2 fr
  refine (readNumber_is aE aM aS aL B C A n cap r w1 HE.out HR.out HBy.out HX.out hcap).mono ?_
  rintro e w2 ⟨hb, hpost⟩
  rcases hpost with ⟨x, j, hn, _⟩ | ⟨_, a, rfl, ha⟩
  · rw [HNO.out] at hn; cases hn
  have H2 := H1.later hb H1.lt
  have G2 := grown_trans G1 (grown_bel hb (some c))
  replace ha := Lib.hid ha
  clear H1 G1 hb
  go_wp2_with fail
  refine (stop_is c A n cap (k + 1) .nilIface a w2 H2).mono ?_
  rintro e w3 ⟨rfl, H3, G3⟩
  have HG := Lib.hid (grown_trans G2 G3)
  replace H3 := Lib.hid H3
  clear H2 G2 G3
  go_wp2
  go_ret
  exact ⟨rfl, a, H3.out, ha.out, HG.out⟩

/-- What number leaves where there is one. -/
def IsNum (w : World) (C c : Nat) (k : Int) (r : List Int) (x : Int) (j : Nat) (e : Ending) (w' : World) : Prop :=
  e = .returned (.int .i64 x) ∧ ∃ A n cap, Box w' c 71 #[.slice A n cap, .int .i64 (k + 1), .nilIface] ∧ BRow w' C A n (r.drop j) ∧ n ≤ cap ∧ n ≤ maxLen ∧ w.grownBy w' (some c)
set_option maxHeartbeats 1000000 in
theorem number_yes (aE aM aS aL : Addr) (B C c : Nat) (A : Option Addr) (n cap : Nat) (k : Int) (r : List Int) (w : World) (x : Int) (j : Nat) (hk0 : 0 ≤ k) (hk1 : k ≤ 100000) (hE : Errs w B aE aM aS aL) (hBc : B ≤ c) (hr : BRow w C A n r) (hCc : C ≤ c) (hB : Bys r) (hx : n ≤ maxLen) (hcap : n ≤ cap) (h : Box w c 71 #[.slice A n cap, .int .i64 k, .nilIface]) (hyes : num r = some (x, j)) :
    Calls Tryd.prog 78 #[.pointer (some ⟨c, 0, none⟩)] w (IsNum w C c k r x j) := by
  have hcl := h.lt
  obtain ⟨c0, c1, c2⟩ := h.three
  have fr := h.frozen
  have H1 := h.set 1 (.int .i64 (k + 1))
  have G1 := grown_set (grown_refl w (some c)) 1 (.int .i64 (k + 1))
  have HE := Lib.hid (hE.kept G1 (by omega) hBc)
  have HR := Lib.hid (hr.keep (w' := w.setCell ⟨c, 1, none⟩ (.int .i64 (k + 1))) (fun p hp => World.cell?_setCell_other _ _ _ _ (fun e => by rw [← e] at hp; exact absurd hp (by simp; omega))))
  obtain ⟨hx0, hj0, -, hjn, hjp⟩ := num_back hB hyes
  rw [hr.1] at hjn
  have HBy := Lib.hid hB
  have HX := Lib.hid hx
  have HY := Lib.hid hyes
  obtain ⟨b, o, hA, hbC, hcell⟩ := hr.2 (by omega)
  subst hA
  clear h hE hr hB hx hyes hj0 hcell
  go_enter Tryd.func78, Tryd.ntmps78
  go_wp2_with fail
  generalize (w.setCell _ _ : World) = w1 at H1 G1 HE HR ⊢
  clear c0 c1 c2 fr
  refine (readNumber_is aE aM aS aL B C _ n cap r w1 HE.out HR.out HBy.out HX.out hcap).mono ?_
  rintro e w2 ⟨hb, hpost⟩
  rcases hpost with ⟨x', j', hn, rfl⟩ | ⟨hn, _⟩
  rotate_left
  · rw [HY.out] at hn; cases hn
  obtain ⟨rfl, rfl⟩ : x' = x ∧ j' = j := by
    rw [HY.out] at hn
    simp only [Option.some.injEq, Prod.mk.injEq] at hn
    exact ⟨hn.1.symm, hn.2.symm⟩
  clear hn
  have H2 := H1.later hb H1.lt
  have G2 := grown_trans G1 (grown_bel hb (some c))
  obtain ⟨c0, c1, c2⟩ := H2.three
  have fr := H2.frozen
  have hcl2 := H2.lt
  have hC1 := H1.lt
  have HR2 := Lib.hid (HR.out.below hb (by omega))
  clear H1 G1 hb
  have hjc : (j' : Int) ≤ (n : Int) := by omega
  have hj0 : (0 : Int) ≤ (j' : Int) := by omega
  have HS1 := Lib.hid (fun v => H2.set 0 v)
  have HG2 := Lib.hid (fun v => grown_set G2 0 v)
  have HXX := HX
  clear H2 G2
  go_wp2
  · go_ret
    refine ⟨rfl, _, _, _, HS1.out _, (HR2.out.dropEnd ?_).keep (fun p hp => World.cell?_setCell_other _ _ _ _ (fun e => by rw [← e] at hp; exact absurd hp (by simp; omega))), ?_, ?_, HG2.out _⟩
    · omega
    · omega
    · have := HXX.out; unfold maxLen at this ⊢; omega
  · go_ret
    refine ⟨rfl, _, _, _, HS1.out _, (HR2.out.drop (by omega)).keep (fun p hp => World.cell?_setCell_other _ _ _ _ (fun e => by rw [← e] at hp; exact absurd hp (by simp; omega))), ?_, ?_, HG2.out _⟩
    · omega
    · have := HXX.out; unfold maxLen at this ⊢; omega

/-- A cursor: what is left to read, or none behind a fault; and how many numbers were asked for. -/
def Cu (w : World) (C c : Nat) (aE aM aS aL : Addr) (k : Int) : Option (List Int) → Prop
  | some r => Bys r ∧ ∃ A n cap, Box w c 71 #[.slice A n cap, .int .i64 k, .nilIface] ∧ BRow w C A n r ∧ n ≤ cap ∧ n ≤ maxLen
  | none => ∃ A n cap j a, Box w c 71 #[.slice A n cap, .int .i64 k, .iface 100 (.agg #[.int .i64 j, .iface 154 (.pointer (some a))])] ∧ j ≤ k ∧ (a = aE ∨ a = aM ∨ a = aS ∨ a = aL)
theorem Cu.lt {w : World} {C c : Nat} {aE aM aS aL : Addr} {k : Int} {s : Option (List Int)} (h : Cu w C c aE aM aS aL k s) : c < w.heap.size := by
  cases s with
  | none => obtain ⟨A, n, cap, j, a, hb, _⟩ := h; exact hb.lt
  | some r => obtain ⟨_, A, n, cap, hb, _⟩ := h; exact hb.lt
theorem Cu.keep {w w' : World} {C c : Nat} {aE aM aS aL : Addr} {k : Int} {s : Option (List Int)} (h : Cu w C c aE aM aS aL k s) (hc : w'.heap[c]? = w.heap[c]?) (hk : ∀ b, b < C → w'.heap[b]? = w.heap[b]?) : Cu w' C c aE aM aS aL k s := by
  cases s with
  | none => obtain ⟨A, n, cap, j, a, hb, hr⟩ := h; exact ⟨A, n, cap, j, a, hc.trans hb, hr⟩
  | some r => obtain ⟨h0, A, n, cap, hb, hr, h2⟩ := h; exact ⟨h0, A, n, cap, hc.trans hb, hr.keep (fun p hp => World.cell?_of_block (hk p.block hp)), h2⟩
theorem Cu.later {w w' : World} {C c : Nat} {aE aM aS aL : Addr} {k : Int} {s : Option (List Int)} (h : Cu w C c aE aM aS aL k s) (hb : Below w.heap.size w w') (hC : C ≤ c) : Cu w' C c aE aM aS aL k s :=
  h.keep (hb.block c h.lt) (fun b hb' => hb.block b (by have := h.lt; omega))
theorem Cu.set {w : World} {C c : Nat} {aE aM aS aL : Addr} {k : Int} {s : Option (List Int)} (h : Cu w C c aE aM aS aL k s) {p : Addr} (hp : p.block ≠ c) (hC : C ≤ p.block) (v : Value) : Cu (w.setCell p v) C c aE aM aS aL k s :=
  h.keep (Below.heap_setCell w p v c (fun e => hp e.symm)) (fun b hb => Below.heap_setCell w p v b (by omega))

/-- What a cursor that is asked for a number leaves. -/
def Asked (w : World) (C c : Nat) (aE aM aS aL : Addr) (k : Int) (s : Option (List Int)) (e : Ending) (w' : World) : Prop :=
  ∃ x, e = .returned (.int .i64 x) ∧ Hid (x = (ask s).1) ∧ Cu w' C c aE aM aS aL (k + 1) (ask s).2 ∧ w.grownBy w' (some c)
theorem number_is (aE aM aS aL : Addr) (B C c : Nat) (k : Int) (s : Option (List Int)) (w : World) (hk0 : 0 ≤ k) (hk1 : k ≤ 100000) (hE : Errs w B aE aM aS aL) (hBc : B ≤ c) (hCc : C ≤ c) (h : Cu w C c aE aM aS aL k s) :
    Calls Tryd.prog 78 #[.pointer (some ⟨c, 0, none⟩)] w (Asked w C c aE aM aS aL k s) := by
  cases s with
  | none =>
    obtain ⟨A, n, cap, j, a, hb, hj, ha⟩ := h
    refine (number_bad c A n cap k j a w hk0 hk1 hb).mono ?_
    rintro e w' ⟨rfl, hb', hg⟩
    exact ⟨0, rfl, Lib.hid rfl, ⟨A, n, cap, j, a, hb', by omega, ha⟩, hg⟩
  | some r =>
    obtain ⟨hB, A, n, cap, hb, hr, hcap, hx⟩ := h
    cases e : num r with
    | none =>
      refine (number_no aE aM aS aL B C c A n cap k r w hk0 hk1 hE hBc hr hCc hB hx hcap hb e).mono ?_
      rintro e' w' ⟨rfl, a, hb', ha, hg⟩
      refine ⟨0, rfl, Lib.hid (by rw [ask_no e]), ?_, hg⟩
      rw [ask_no e]
      refine ⟨A, n, cap, k + 1, a, hb', Int.le_refl _, ?_⟩
      rcases ha with ⟨_, rfl⟩ | ⟨_, rfl | rfl⟩
      · exact .inl rfl
      · exact .inr (.inr (.inl rfl))
      · exact .inr (.inr (.inr rfl))
    | some p =>
      obtain ⟨x, j⟩ := p
      refine (number_yes aE aM aS aL B C c A n cap k r w x j hk0 hk1 hE hBc hr hCc hB hx hcap hb e).mono ?_
      rintro e' w' ⟨rfl, A', n', cap', hb', hr', hc', hx', hg⟩
      refine ⟨x, rfl, Lib.hid (by rw [ask_yes e]), ?_, hg⟩
      rw [ask_yes e]
      exact ⟨hB.drop j, A', n', cap', hb', hr', hc', hx'⟩

end Go.Proofs.YtgjbebfcbpfngaaDoor

/- What fill of a cursor of impl/l06_wire.go leaves: its contract; the places lie all in one block. -/
namespace Go.Proofs.YtgjbebfcbpfngaaDoor
open Go.RowKit Go.Deep

/-- Numbers put into places. -/
def putAll : Array Value → List Nat → List Int → Array Value
  | cs, o :: os, x :: xs => putAll (cs.setIfInBounds o (.int .i64 x)) os xs
  | cs, _, _ => cs
theorem putAll_size : ∀ (os : List Nat) (xs : List Int) (cs : Array Value), (putAll cs os xs).size = cs.size := by
  intro os
  induction os with
  | nil => intro xs cs; rfl
  | cons o os ih =>
    intro xs cs
    cases xs with
    | nil => rfl
    | cons x xs => rw [putAll, ih]; simp
theorem putAll_snoc : ∀ (os : List Nat) (xs : List Int) (cs : Array Value) (o : Nat) (x : Int), os.length = xs.length → putAll cs (os ++ [o]) (xs ++ [x]) = (putAll cs os xs).setIfInBounds o (.int .i64 x) := by
  intro os
  induction os with
  | nil =>
    intro xs cs o x h
    have : xs = [] := List.length_eq_zero_iff.1 h.symm
    subst this
    rfl
  | cons o' os ih =>
    intro xs cs o x h
    cases xs with
    | nil => simp at h
    | cons x' xs => simp only [List.cons_append, putAll]; exact ih xs _ o x (by simpa using h)

/-- All but two blocks are as they were. -/
structure Grown2 (w w' : World) (c N : Nat) : Prop where
  os : w'.os = w.os
  tape : w'.tape = w.tape
  output : w'.output = w.output
  size : w.heap.size ≤ w'.heap.size
  block : ∀ k, k < w.heap.size → k ≠ c → k ≠ N → w'.heap[k]? = w.heap[k]?
theorem Grown2.refl (w : World) (c N : Nat) : Grown2 w w c N := ⟨rfl, rfl, rfl, Nat.le_refl _, fun _ _ _ _ => rfl⟩
theorem Grown2.grown {w w1 w2 : World} {c N : Nat} (h : Grown2 w w1 c N) (k : w1.grownBy w2 (some c)) : Grown2 w w2 c N :=
  ⟨k.os.trans h.os, k.tape.trans h.tape, k.output.trans h.output, Nat.le_trans h.size k.size, fun i hi h1 h2 => (k.block i (Nat.lt_of_lt_of_le hi h.size) (by intro e; injection e with e; exact h1 e)).trans (h.block i hi h1 h2)⟩
theorem Grown2.set {w w1 : World} {c N : Nat} (h : Grown2 w w1 c N) (i : Nat) (v : Value) : Grown2 w (w1.setCell ⟨N, i, none⟩ v) c N :=
  ⟨h.os, h.tape, h.output, by rw [size_set]; exact h.size, fun k hk h1 h2 => (Below.heap_setCell w1 ⟨N, i, none⟩ v k h2).trans (h.block k hk h1 h2)⟩
theorem Grown2.errs {w w' : World} {c N B : Nat} {aE aM aS aL : Addr} (h : Grown2 w w' c N) (hE : Errs w B aE aM aS aL) (hB : B ≤ w.heap.size) (hc : B ≤ c) (hN : B ≤ N) : Errs w' B aE aM aS aL :=
  hE.keep fun k hk => h.block k (by omega) (by omega) (by omega)
theorem Grown2.box {w w' : World} {c N R : Nat} {t : TypeId} {cs : Array Value} (h : Grown2 w w' c N) (hb : Box w R t cs) (hc : R ≠ c) (hN : R ≠ N) : Box w' R t cs := (h.block R hb.lt hc hN).trans hb

/-- What fill leaves. -/
def Filled (w : World) (C c N : Nat) (t : TypeId) (cs : Array Value) (offs : List Nat) (aE aM aS aL : Addr) (k : Int) (s : Option (List Int)) (e : Ending) (w' : World) : Prop :=
  e = .returned (.tuple #[]) ∧ Cu w' C c aE aM aS aL (k + offs.length) (asks offs.length s).2 ∧ Box w' N t (putAll cs offs (asks offs.length s).1) ∧ Grown2 w w' c N

set_option maxHeartbeats 2000000 in
theorem fill_is (aE aM aS aL : Addr) (B C c R N n cap : Nat) (t tp : TypeId) (cs rs : Array Value) (offs : List Nat) (k : Int) (s : Option (List Int)) (w : World) (hk0 : 0 ≤ k) (hk1 : k ≤ 10000) (hE : Errs w B aE aM aS aL) (hBw : B ≤ w.heap.size) (hBc : B ≤ c) (hBN : B ≤ N) (hCc : C ≤ c) (hCN : C ≤ N) (hcN : c ≠ N) (hRc : R ≠ c) (hRN : R ≠ N)
    (h : Cu w C c aE aM aS aL k s) (hN : Box w N t cs) (hR : Box w R tp rs) (hl : offs.length = n) (hn : n ≤ 20) (hp : ∀ i, i < n → rs[i]? = some (.pointer (some ⟨N, offs.getD i 0, none⟩))) (ho : ∀ i, i < n → ∃ v, cs[offs.getD i 0]? = some v) :
    Calls Tryd.prog 76 #[.pointer (some ⟨c, 0, none⟩), .slice (some ⟨R, 0, none⟩) n cap] w (Filled w C c N t cs offs aE aM aS aL k s) := by
  have HE := Lib.hid hE
  have HL := Lib.hid hl
  have HP := Lib.hid hp
  have HO := Lib.hid ho
  have HC := Lib.hid h
  have HN := Lib.hid hN
  have HR := Lib.hid hR
  clear hE hl hp ho h hN hR
  go_enter Tryd.func76, Tryd.ntmps76
  go_wp2_with fail
  go_loopw [8] (fun iv wr => ∃ i : Nat, i ≤ n ∧ iv = .int .i64 i ∧ Cu wr C c aE aM aS aL (k + i) (asks i s).2 ∧ Box wr N t (putAll cs (offs.take i) (asks i s).1) ∧ Grown2 w wr c N) (fun i _ => n - (intOf i).toNat)
  case atStart => exact ⟨0, Nat.zero_le _, rfl, by simpa [asks] using HC.out, by simpa [asks, putAll] using HN.out, Grown2.refl _ _ _⟩
  case round =>
    obtain ⟨i, hi, rfl, hC, hN, hG⟩ := hrel
    by_cases hlt : i < n
    · have hlt' : (i : Int) < (n : Int) := by omega
      have hr := (hG.box HR.out hRc hRN).cell i
      rw [HP.out i hlt] at hr
      generalize ho : offs.getD i 0 = o at hr
      have hEr := hG.errs HE.out hBw hBc hBN
      have hk2 : k + i ≤ 100000 := by omega
      have hk3 : 0 ≤ k + i := by omega
      replace ho := Lib.hid ho
      replace hC := Lib.hid hC
      replace hEr := Lib.hid hEr
      go_wp2_with fail
      refine (number_is aE aM aS aL B C c (k + i) (asks i s).2 wr hk3 hk2 hEr.out hBc hCc hC.out).mono ?_
      rintro e w1 ⟨x, rfl, hx, hC1, hg⟩
      have hG1 := hG.grown hg
      have hN1 := hN.kept hg (by intro e; injection e with e; exact hcN e)
      obtain ⟨v, hv⟩ := HO.out i hlt
      rw [ho.out] at hv
      have hos : o < (putAll cs (offs.take i) (asks i s).1).size := by
        rw [putAll_size]
        obtain ⟨h1, _⟩ := Array.getElem?_eq_some_iff.1 hv
        exact h1
      have c1 := (hN1.cell o).trans (Array.getElem?_eq_getElem hos)
      have f1 := hN1.frozen o
      generalize (putAll cs (offs.take i) (asks i s).1)[o] = u at c1
      have HC2 := Lib.hid (hC1.set (p := ⟨N, o, none⟩) (fun e => hcN e.symm) hCN (.int .i64 x))
      have HG2 := Lib.hid (hG1.set o (.int .i64 x))
      have HN2 := Lib.hid (hN1.set o (.int .i64 x))
      have hst : Hid (asks (i + 1) s = ((asks i s).1 ++ [x], (ask (asks i s).2).2)) := Lib.hid (by rw [asks_add i 1 s, hx.out]; rfl)
      have htk : Hid (offs.take (i + 1) = offs.take i ++ [o]) := Lib.hid (by
        have hil : i < offs.length := by rw [HL.out]; exact hlt
        rw [List.take_succ_eq_append_getElem hil, ← ho.out]
        simp [List.getD, hil])
      have htl : Hid ((offs.take i).length = (asks i s).1.length) := Lib.hid (by rw [asks_len, List.length_take, HL.out]; omega)
      clear hC1 hg hG hG1 hN hN1 hos hv hx
      go_wp2
      go_roundw
      case rel =>
        refine ⟨i + 1, by omega, by go_num, ?_, ?_, HG2.out⟩
        · rw [hst.out]
          have e : k + ((i + 1 : Nat) : Int) = k + i + 1 := by omega
          rw [e]
          exact HC2.out
        · rw [hst.out, htk.out, putAll_snoc _ _ _ _ _ htl.out]
          exact HN2.out
      case measure => simp [intOf]; omega
    · obtain rfl : i = n := by omega
      have hlt' : ¬ (i : Int) < (i : Int) := by omega
      replace hC := Lib.hid hC
      replace hN := Lib.hid hN
      replace hG := Lib.hid hG
      go_wp2
      go_end0
      refine ⟨rfl, ?_, ?_, hG.out⟩
      · rw [HL.out]; exact hC.out
      · rw [HL.out]
        have := hN.out
        rw [List.take_of_length_le (by rw [HL.out]; exact Nat.le_refl _)] at this
        exact this

end Go.Proofs.YtgjbebfcbpfngaaDoor

/- What seals of a cursor of impl/l06_wire.go answers: its contract. -/
namespace Go.Proofs.YtgjbebfcbpfngaaDoor
open Go.RowKit Go.Deep

theorem putAll_app : ∀ (os : List Nat) (xs : List Int) (cs : Array Value) (os' : List Nat) (xs' : List Int), os.length = xs.length → putAll cs (os ++ os') (xs ++ xs') = putAll (putAll cs os xs) os' xs' := by
  intro os
  induction os with
  | nil =>
    intro xs cs os' xs' h
    have : xs = [] := List.length_eq_zero_iff.1 h.symm
    subst this
    rfl
  | cons o os ih =>
    intro xs cs os' xs' h
    cases xs with
    | nil => simp at h
    | cons x xs => simp only [List.cons_append, putAll]; exact ih xs _ os' xs' (by simpa using h)
theorem putAll_far : ∀ (os : List Nat) (xs : List Int) (cs : Array Value) (j : Nat), j ∉ os → (putAll cs os xs)[j]? = cs[j]? := by
  intro os
  induction os with
  | nil => intro xs cs j _; rfl
  | cons o os ih =>
    intro xs cs j h
    cases xs with
    | nil => rfl
    | cons x xs =>
      simp only [List.mem_cons, not_or] at h
      rw [putAll, ih xs _ j h.2, Array.getElem?_setIfInBounds_ne (fun e => h.1 e.symm)]
/-- Numbers put into the first places. -/
theorem putAll_range (xs : List Int) : ∀ (cs : Array Value) (n : Nat), xs.length = n → n ≤ cs.size → ∀ j, j < n → (putAll cs (List.range n) xs)[j]? = some (.int .i64 (nth xs j)) := by
  intro cs n
  induction n generalizing xs with
  | zero => intro _ _ j hj; omega
  | succ n ih =>
    intro hl hs j hj
    obtain ⟨ys, y, rfl⟩ : ∃ ys y, xs = ys ++ [y] := ⟨xs.dropLast, xs.getLast (by intro e; subst e; simp at hl), (List.dropLast_concat_getLast _).symm⟩
    have hyl : ys.length = n := by simpa using hl
    rw [List.range_succ, putAll_snoc _ _ _ _ _ (by simp [hyl])]
    by_cases e : j = n
    · subst e
      rw [Array.getElem?_setIfInBounds]
      simp [putAll_size, show j < cs.size by omega, nth, hyl]
    · rw [Array.getElem?_setIfInBounds_ne (fun e' => e e'.symm), ih ys hyl (by omega) j (by omega)]
      simp [nth, hyl, show j < n by omega, List.getElem?_append]
theorem pairUp_nth : ∀ (m : Nat) (xs : List Int), xs.length = 2 * m → ∀ i, i < m → pth (pairUp xs) i = (nth xs (i * 2), nth xs (i * 2 + 1)) := by
  intro m
  induction m with
  | zero => intro xs _ i hi; omega
  | succ m ih =>
    intro xs h i hi
    match xs, h with
    | [], h => simp at h
    | [a], h => simp at h; omega
    | a :: b :: r, h =>
      cases i with
      | zero => rfl
      | succ i =>
        have := ih r (by simp at h; omega) i (by omega)
        simp only [pairUp]
        have e : pth ((a, b) :: pairUp r) (i + 1) = pth (pairUp r) i := by simp [pth]
        rw [e, this]
        have e1 : nth (a :: b :: r) ((i + 1) * 2) = nth r (i * 2) := by rw [show (i + 1) * 2 = i * 2 + 2 by omega]; simp [nth]
        have e2 : nth (a :: b :: r) ((i + 1) * 2 + 1) = nth r (i * 2 + 1) := by rw [show (i + 1) * 2 + 1 = i * 2 + 1 + 2 by omega]; simp [nth]
        rw [e1, e2]
theorem held_put {w : World} {g m : Nat} {t : TypeId} {cs : Array Value} {xs : List Int} (h : Box w g t (putAll cs (List.range (2 * m)) xs)) (hx : xs.length = 2 * m) (hs : cs.size = 2 * m) : Held w g (pairUp xs) := by
  have hl := (pairs_pairUp m xs hx).2
  refine ⟨h.lt, h.frozen, fun i hi => ?_, fun i hi => ?_⟩
  · rw [h.cell, putAll_range xs cs (2 * m) hx (by omega) (i * 2) (by omega), pairUp_nth m xs hx i (by omega)]
  · rw [h.cell, putAll_range xs cs (2 * m) hx (by omega) (i * 2 + 1) (by omega), pairUp_nth m xs hx i (by omega)]
theorem ask_zero {s : Option (List Int)} (h : (ask s).2 = none) : (ask s).1 = 0 := by
  cases s with
  | none => rfl
  | some r =>
    cases e : num r with
    | none => rw [ask_no e]
    | some p => rw [ask_yes (x := p.1) (k := p.2) e] at h; cases h

theorem Grown2.trans {w w1 w2 : World} {c N : Nat} (h : Grown2 w w1 c N) (k : Grown2 w1 w2 c N) : Grown2 w w2 c N :=
  ⟨k.os.trans h.os, k.tape.trans h.tape, k.output.trans h.output, Nat.le_trans h.size k.size, fun i hi h1 h2 => (k.block i (Nat.lt_of_lt_of_le hi h.size) h1 h2).trans (h.block i hi h1 h2)⟩
theorem Grown2.bel {w w' : World} {c N : Nat} (h : Below w.heap.size w w') : Grown2 w w' c N := ⟨h.os, h.tape, h.output, h.size, fun i hi _ _ => h.block i hi⟩

/-- What seals leaves. -/
def GotSeals (w : World) (C c : Nat) (aE aM aS aL : Addr) (k : Int) (s : Option (List Int)) (e : Ending) (w' : World) : Prop :=
  ∃ (k' : Int) (u : Value) (ps : List (Int × Int)), e = .returned u ∧ Hid (ps = (askSeals s).1) ∧ k ≤ k' ∧ k' ≤ k + 41 ∧ Cu w' C c aE aM aS aL k' (askSeals s).2 ∧ w.grownBy w' (some c) ∧
    ((u = .slice none 0 0 ∧ ps = [] ∧ (askSeals s).2 = none) ∨ ∃ g n, u = .slice (some ⟨g, 0, none⟩) n n ∧ ps.length = n ∧ w.heap.size ≤ g ∧ Held w' g ps)

set_option maxRecDepth 100000 in
set_option maxHeartbeats 4000000 in
theorem seals_many (aE aM aS aL : Addr) (B C c : Nat) (k : Int) (s : Option (List Int)) (w : World) (hk0 : 0 ≤ k) (hk1 : k ≤ 1000) (hE : Errs w B aE aM aS aL) (hBw : B ≤ w.heap.size) (hBc : B ≤ c) (hCc : C ≤ c) (h : Cu w C c aE aM aS aL k s) (hmany : 20 < (ask s).1) :
    Calls Tryd.prog 77 #[.pointer (some ⟨c, 0, none⟩)] w (GotSeals w C c aE aM aS aL k s) := by
  have HE := Lib.hid hE
  have HC := Lib.hid h
  have HM := Lib.hid hmany
  have hs : (askSeals s) = ([], none) := by unfold askSeals; rw [if_pos hmany]
  have HS := Lib.hid hs
  clear hE h hmany hs
  go_enter Tryd.func77, Tryd.ntmps77
  go_wp2_with fail
  refine (number_is aE aM aS aL B C c k s w hk0 (by omega) HE.out hBc hCc HC.out).mono ?_
  rintro e w1 ⟨x, rfl, hx, hC1, hg⟩
  have hx20 : 20 < x := by rw [hx.out]; exact HM.out
  have E1 := HE.out.kept hg (by omega) hBc
  have e1 := E1.e1
  cases hst : (ask s).2 with
  | none => have := ask_zero hst; have := HM.out; omega
  | some r =>
  rw [hst] at hC1
  obtain ⟨_, A, n, cap, hb, _⟩ := hC1
  replace hst := Lib.hid hst
  replace E1 := Lib.hid E1
  go_wp2_with fail
  refine (stop_is c A n cap (k + 1) .nilIface aM w1 hb).mono ?_
  rintro e w2 ⟨rfl, hb2, hg2⟩
  have HG := Lib.hid (grown_trans hg hg2)
  replace hb2 := Lib.hid hb2
  clear hb hg hg2 e1
  go_wp2
  go_ret
  refine ⟨k + 1, .slice none 0 0, [], rfl, Lib.hid (by rw [HS.out]), by omega, by omega, ?_, HG.out, .inl ⟨rfl, rfl, by rw [HS.out]⟩⟩
  rw [HS.out]
  exact ⟨A, n, cap, k + 1, aM, hb2.out, Int.le_refl _, .inr (.inl rfl)⟩

set_option maxRecDepth 100000 in
set_option maxHeartbeats 4000000 in
theorem seals_few (aE aM aS aL : Addr) (B C c m : Nat) (k : Int) (s : Option (List Int)) (w : World) (hk0 : 0 ≤ k) (hk1 : k ≤ 1000) (hE : Errs w B aE aM aS aL) (hBw : B ≤ w.heap.size) (hBc : B ≤ c) (hCc : C ≤ c) (h : Cu w C c aE aM aS aL k s) (hm : (ask s).1 = (m : Int)) (hm20 : m ≤ 20) :
    Calls Tryd.prog 77 #[.pointer (some ⟨c, 0, none⟩)] w (GotSeals w C c aE aM aS aL k s) := by
  have hmk := fun W => run_make_pairs (P := Tryd.prog) 29 94 Tryd.underlying29 Tryd.infoSeal m (by omega) W
  have HE := Lib.hid hE
  have HC := Lib.hid h
  have hcl := h.lt
  have hs : askSeals s = (pairUp (asks (2 * m) (ask s).2).1, (asks (2 * m) (ask s).2).2) := by
    unfold askSeals
    rw [hm, if_neg (by omega)]
    simp
  have HS := Lib.hid hs
  have HM := Lib.hid hm
  clear hE h hs hm
  go_enter Tryd.func77, Tryd.ntmps77
  go_wp2_with fail
  refine (number_is aE aM aS aL B C c k s w hk0 (by omega) HE.out hBc hCc HC.out).mono ?_
  rintro e w1 ⟨x, rfl, hx, hC1, hg⟩
  obtain rfl : x = (m : Int) := by rw [hx.out, HM.out]
  have E1 := HE.out.kept hg (by omega) hBc
  have hgs := hg.size
  replace E1 := Lib.hid E1
  replace hC1 := Lib.hid hC1
  generalize (ask s).2 = s1 at HS hC1
  have hm1 : ¬ (20 : Int) < (m : Int) := by omega
  go_wp2_with fail
  have hcs : (madeCells #[.int .i64 0, .int .i64 0] (m * 2)).size = 2 * m := by rw [size_madeCells]; omega
  have N1 := Box.new w1 94 (madeCells #[.int .i64 0, .int .i64 0] (m * 2))
  have F1 := bel_alloc w1 (.cells (madeCells #[.int .i64 0, .int .i64 0] (m * 2)) 94)
  have hC2 := Lib.hid (hC1.out.later F1 hCc)
  have E2 := Lib.hid (E1.out.later F1 (by omega))
  have G2 := grown_trans hg (grown_bel F1 (some c))
  have hcl1 := hC1.out.lt
  have hs2 : (w1.alloc (.cells (madeCells #[.int .i64 0, .int .i64 0] (m * 2)) 94)).heap.size = w1.heap.size + 1 := by simp
  replace hs2 := Lib.hid hs2
  replace hcs := Lib.hid hcs
  generalize (w1.alloc _ : World) = w2 at N1 F1 hC2 E2 G2 hs2 ⊢
  generalize (madeCells #[.int .i64 0, .int .i64 0] (m * 2)) = cs at N1 hcs
  generalize w1.heap.size = g at N1 hgs hcl1 hs2 ⊢
  clear hmk hC1 E1 hg F1
  have hgl := N1.lt
  go_loopw [17] (fun iv wr => ∃ i : Nat, i ≤ m ∧ iv = .int .i64 i ∧ Cu wr C c aE aM aS aL (k + 1 + 2 * i) (asks (2 * i) s1).2 ∧ Box wr g 94 (putAll cs (List.range (2 * i)) (asks (2 * i) s1).1) ∧ Grown2 w2 wr c g) (fun i _ => m - (intOf i).toNat)
  case atStart => exact ⟨0, Nat.zero_le _, rfl, by simpa [asks] using hC2.out, by simpa [asks, putAll] using N1, Grown2.refl _ _ _⟩
  case round =>
    obtain ⟨i, hi, rfl, hC, hN, hG⟩ := hrel
    by_cases hlt : i < m
    · have hlt' : (i : Int) < (m : Int) := by omega
      have hEr := hG.errs E2.out (by omega) hBc (by omega)
      have hgs2 := hG.size
      have hR := Box.new wr 57 #[.pointer (some ⟨g, i * 2, none⟩), .pointer (some ⟨g, i * 2 + 1, none⟩)]
      have F := bel_alloc wr (.cells #[.pointer (some ⟨g, i * 2, none⟩), .pointer (some ⟨g, i * 2 + 1, none⟩)] 57)
      have hCr := Lib.hid (hC.later F hCc)
      have hNr := Lib.hid (hN.later F hN.lt)
      have hEr := Lib.hid (hEr.later F (by omega))
      have hgr := hN.lt
      have hcr := hC.lt
      have hk2 : k + 1 + 2 * i ≤ 10000 := by omega
      have hk3 : 0 ≤ k + 1 + 2 * i := by omega
      have hsz : Hid ((putAll cs (List.range (2 * i)) (asks (2 * i) s1).1).size = 2 * m) := Lib.hid (by rw [putAll_size, hcs.out])
      replace hR := Lib.hid hR
      replace F := Lib.hid F
      generalize hst : (asks (2 * i) s1).2 = st at hCr
      replace hst := Lib.hid hst
      clear hN hC
      go_wp2_with fail
      have hcall := Lib.hid (fill_is aE aM aS aL B C c wr.heap.size g 2 2 94 57 (putAll cs (List.range (2 * i)) (asks (2 * i) s1).1) #[.pointer (some ⟨g, i * 2, none⟩), .pointer (some ⟨g, i * 2 + 1, none⟩)] [i * 2, i * 2 + 1] (k + 1 + 2 * i) st
        (wr.alloc (.cells #[.pointer (some ⟨g, i * 2, none⟩), .pointer (some ⟨g, i * 2 + 1, none⟩)] 57)).drew hk3 hk2 (hEr.out.keep fun _ _ => rfl) (by simp; omega) hBc (by omega) hCc (by omega) (by omega) (by omega) (by omega) (hCr.out.keep rfl fun _ _ => rfl) hNr.out hR.out rfl (by omega)
        (by intro j hj; rcases j with _ | _ | j; rfl; rfl; omega)
        (by
          intro j hj
          rcases j with _ | _ | j
          · exact ⟨_, Array.getElem?_eq_getElem (by rw [hsz.out]; simp; omega)⟩
          · exact ⟨_, Array.getElem?_eq_getElem (by rw [hsz.out]; simp; omega)⟩
          · omega))
      go_region_with (go_at_call 76; refine hcall.out.mono ?_; rintro e w3 ⟨rfl, hC3, hN3, hG3⟩)
      all_goals
        have ha : asks (2 * (i + 1)) s1 = ((asks (2 * i) s1).1 ++ (asks 2 st).1, (asks 2 st).2) := by rw [show 2 * (i + 1) = 2 * i + 2 by omega, asks_add, hst.out]
        have hrg : List.range (2 * (i + 1)) = List.range (2 * i) ++ [i * 2, i * 2 + 1] := by
          rw [show 2 * (i + 1) = 2 * i + 1 + 1 by omega, List.range_succ, List.range_succ, show i * 2 = 2 * i by omega, List.append_assoc]; rfl
        have HC4 : Hid (Cu w3 C c aE aM aS aL (k + 1 + 2 * ((i + 1 : Nat) : Int)) (asks (2 * (i + 1)) s1).2) := Lib.hid (by
          rw [ha]
          have e : k + 1 + 2 * ((i + 1 : Nat) : Int) = k + 1 + 2 * i + ([i * 2, i * 2 + 1].length : Nat) := by simp; omega
          rw [e]
          exact hC3)
        have HN4 : Hid (Box w3 g 94 (putAll cs (List.range (2 * (i + 1))) (asks (2 * (i + 1)) s1).1)) := Lib.hid (by
          rw [ha, hrg, putAll_app _ _ _ _ _ (by simp [asks_len])]
          exact hN3)
        have HG4 : Hid (Grown2 w2 w3 c g) := Lib.hid ((hG.trans (Grown2.bel F.out.drew)).trans hG3)
        clear ha hrg hC3 hN3 hG3 hG
        go_wp2
        go_roundw
        case rel => exact ⟨i + 1, by omega, by go_num, HC4.out, HN4.out, HG4.out⟩
        case measure => simp [intOf]; omega
    · obtain rfl : i = m := by omega
      have hlt' : ¬ (i : Int) < (i : Int) := by omega
      replace hC := Lib.hid hC
      have hH := Lib.hid (held_put hN (asks_len _ _) hcs.out)
      have hGG : Hid (w.grownBy wr (some c)) := Lib.hid ⟨hG.os.trans G2.os, hG.tape.trans G2.tape, hG.output.trans G2.output, Nat.le_trans G2.size hG.size, fun j hj hne => (hG.block j (Nat.lt_of_lt_of_le hj G2.size) (fun e => hne (by rw [e])) (by omega)).trans (G2.block j hj hne)⟩
      clear hN hG
      go_wp2
      go_ret
      refine ⟨k + 1 + 2 * i, _, pairUp (asks (2 * i) s1).1, rfl, Lib.hid (by rw [HS.out]), by omega, by omega, ?_, hGG.out, .inr ⟨g, i, rfl, (pairs_pairUp i _ (asks_len _ _)).2, by omega, hH.out⟩⟩
      rw [HS.out]
      exact hC.out

theorem seals_is (aE aM aS aL : Addr) (B C c : Nat) (k : Int) (s : Option (List Int)) (w : World) (hk0 : 0 ≤ k) (hk1 : k ≤ 1000) (hE : Errs w B aE aM aS aL) (hBw : B ≤ w.heap.size) (hBc : B ≤ c) (hCc : C ≤ c) (h : Cu w C c aE aM aS aL k s) (hb : SBys s) :
    Calls Tryd.prog 77 #[.pointer (some ⟨c, 0, none⟩)] w (GotSeals w C c aE aM aS aL k s) := by
  have h0 := (ask_bound hb).1
  by_cases hm : 20 < (ask s).1
  · exact seals_many aE aM aS aL B C c k s w hk0 hk1 hE hBw hBc hCc h hm
  · exact seals_few aE aM aS aL B C c (ask s).1.toNat k s w hk0 hk1 hE hBw hBc hCc h (by omega) (by omega)

end Go.Proofs.YtgjbebfcbpfngaaDoor

/- What note of a cursor of impl/l06_wire.go answers: its contract. -/
namespace Go.Proofs.YtgjbebfcbpfngaaDoor
open Go.RowKit Go.Deep

theorem results_cell_tmp {P : Program} {fn : Func} {x y : Tmp} {ty : TypeId} (h : fn.results = #[.cell x ty, .tmp y]) (tmps : Array Value) (w : World) (g : Nat) (t : TypeId) (cs : Array Value) (v : Value) (d : TypeDesc)
    (hx : tmps.getD x undef = .pointer (some ⟨g, 0, none⟩)) (hy : tmps.getD y undef = v) (hg : Box w g t cs)
    (hu : P.underlying ty = some d) (hd : (match d with | .struct _ | .array _ _ => true | _ => false) = true) (hi : (P.info? ty).map (·.size) = some cs.size) :
    (results fn tmps).run P w = .ok (.tuple #[.agg cs, v]) w := by
  have ex : tmps[x]?.getD undef = .pointer (some ⟨g, 0, none⟩) := by simpa using hx
  have ey : tmps[y]?.getD undef = v := by simpa using hy
  simp [results, h, ex, ey, asAddr, run_loadVar_row w g t ty cs (0, 0) d hg hu hd hi]
theorem zn_one : ZN.all (·.oneCell') = true := (show Shape ZN (.slice none 0 0) (.slice none 0 0) from ⟨_, _, _, _, _, _, _, _, _, _, _, _, _, _, rfl⟩).one rfl rfl
theorem bel_setRow {B : Nat} {w w' : World} {g : Nat} (h : Below B w w') (hg : B ≤ g) (cs : Array Value) : Below B w (w'.setRow g cs) :=
  ⟨h.os, h.tape, h.output, by rw [size_setRow]; exact h.size, fun k hk => (heap_setRow w' g cs k (by omega)).trans (h.block k hk)⟩
theorem zn_info : (Tryd.prog.info? 31).map (·.size) = some ZN.size := by kernel_rfl

/-- The places of a note's numbers. -/
def offs14 : List Nat := [0, 1, 2, 3, 4, 5, 6, 7, 8, 9, 10, 13, 14, 15]
/-- A note's cells: fourteen numbers, and two lists. -/
def noteA (xs : List Int) (u v : Value) : Array Value := #[.int .i64 (nth xs 0), .int .i64 (nth xs 1), .int .i64 (nth xs 2), .int .i64 (nth xs 3), .int .i64 (nth xs 4), .int .i64 (nth xs 5), .int .i64 (nth xs 6), .int .i64 (nth xs 7), .int .i64 (nth xs 8), .int .i64 (nth xs 9), .int .i64 (nth xs 10), u, v, .int .i64 (nth xs 11), .int .i64 (nth xs 12), .int .i64 (nth xs 13)]
theorem list14 {xs : List Int} (h : xs.length = 14) : xs = numN (nth xs 0) (nth xs 1) (nth xs 2) (nth xs 3) (nth xs 4) (nth xs 5) (nth xs 6) (nth xs 7) (nth xs 8) (nth xs 9) (nth xs 10) (nth xs 11) (nth xs 12) (nth xs 13) := by
  match xs, h with
  | [a0, a1, a2, a3, a4, a5, a6, a7, a8, a9, a10, a11, a12, a13], _ => rfl
theorem put14l (a0 a1 a2 a3 a4 a5 a6 a7 a8 a9 a10 a11 a12 a13 : Int) (u v : Value) : ((putAll ZN offs14 [a0, a1, a2, a3, a4, a5, a6, a7, a8, a9, a10, a11, a12, a13]).setIfInBounds 11 u).setIfInBounds 12 v = noteA [a0, a1, a2, a3, a4, a5, a6, a7, a8, a9, a10, a11, a12, a13] u v := by kernel_rfl
theorem put14 {xs : List Int} (h : xs.length = 14) (u v : Value) : ((putAll ZN offs14 xs).setIfInBounds 11 u).setIfInBounds 12 v = noteA xs u v := by
  match xs, h with
  | [a0, a1, a2, a3, a4, a5, a6, a7, a8, a9, a10, a11, a12, a13], _ => exact put14l a0 a1 a2 a3 a4 a5 a6 a7 a8 a9 a10 a11 a12 a13 u v
theorem noteA_shape (xs : List Int) (u v : Value) : Shape (noteA xs u v) u v := ⟨_, _, _, _, _, _, _, _, _, _, _, _, _, _, rfl⟩
theorem ptrs_off (g i : Nat) (h : i < 14) : (ptrs g)[i]? = some (.pointer (some ⟨g, offs14.getD i 0, none⟩)) := by
  obtain rfl | rfl | rfl | rfl | rfl | rfl | rfl | rfl | rfl | rfl | rfl | rfl | rfl | rfl : i = 0 ∨ i = 1 ∨ i = 2 ∨ i = 3 ∨ i = 4 ∨ i = 5 ∨ i = 6 ∨ i = 7 ∨ i = 8 ∨ i = 9 ∨ i = 10 ∨ i = 11 ∨ i = 12 ∨ i = 13 := by omega
  all_goals rfl
theorem zn_off (i : Nat) (h : i < 14) : ∃ v, ZN[offs14.getD i 0]? = some v := by
  obtain rfl | rfl | rfl | rfl | rfl | rfl | rfl | rfl | rfl | rfl | rfl | rfl | rfl | rfl : i = 0 ∨ i = 1 ∨ i = 2 ∨ i = 3 ∨ i = 4 ∨ i = 5 ∨ i = 6 ∨ i = 7 ∨ i = 8 ∨ i = 9 ∨ i = 10 ∨ i = 11 ∨ i = 12 ∨ i = 13 := by omega
  all_goals exact ⟨_, rfl⟩

/-- A list of seals that was read: in a block of its own from B on, or nil behind a fault. -/
def LstR (w : World) (B : Nat) (u : Value) (ps : List (Int × Int)) (bad : Prop) : Prop :=
  (u = .slice none 0 0 ∧ ps = [] ∧ bad) ∨ ∃ g n, u = .slice (some ⟨g, 0, none⟩) n n ∧ ps.length = n ∧ B ≤ g ∧ Held w g ps
theorem LstR.kept {w w' : World} {B r : Nat} {u : Value} {ps : List (Int × Int)} {bad : Prop} (h : LstR w B u ps bad) (hg : w.grownBy w' (some r)) (hr : r < B) : LstR w' B u ps bad := by
  rcases h with h | ⟨g, n, h1, h2, h3, h4⟩
  · exact .inl h
  · have e := hg.block g h4.lt (by intro e; injection e with e; omega)
    exact .inr ⟨g, n, h1, h2, h3, Nat.lt_of_lt_of_le h4.lt hg.size, fun o => (World.frozen?_of_block (w := w) (w' := w') (a := ⟨g, o, none⟩) e).trans (h4.fr o), fun i hi => (World.cell?_of_block (w := w) (w' := w') (a := ⟨g, i * 2, none⟩) e).trans (h4.at0 i hi), fun i hi => (World.cell?_of_block (w := w) (w' := w') (a := ⟨g, i * 2 + 1, none⟩) e).trans (h4.at1 i hi)⟩
theorem LstR.later {w w' : World} {B : Nat} {u : Value} {ps : List (Int × Int)} {bad : Prop} (h : LstR w B u ps bad) (hb : Below w.heap.size w w') : LstR w' B u ps bad := by
  rcases h with h | ⟨g, n, h1, h2, h3, h4⟩
  · exact .inl h
  · exact .inr ⟨g, n, h1, h2, h3, h4.later hb⟩
theorem LstR.base {w : World} {B B' : Nat} {u : Value} {ps : List (Int × Int)} {bad : Prop} (h : LstR w B u ps bad) (hB : B' ≤ B) : LstR w B' u ps bad := by
  rcases h with h | ⟨g, n, h1, h2, h3, h4⟩
  · exact .inl h
  · exact .inr ⟨g, n, h1, h2, by omega, h4⟩
theorem LstR.as {w : World} {B : Nat} {u : Value} {ps : List (Int × Int)} {bad bad' : Prop} (h : LstR w B u ps bad) (hb : bad → bad') : LstR w B u ps bad' := by
  rcases h with ⟨h1, h2, h3⟩ | h
  · exact .inl ⟨h1, h2, hb h3⟩
  · exact .inr h
theorem LstR.one {w : World} {B : Nat} {u : Value} {ps : List (Int × Int)} {bad : Prop} (h : LstR w B u ps bad) : u.oneCell' = true := by
  rcases h with ⟨rfl, _⟩ | ⟨g, n, rfl, _⟩ <;> rfl
theorem LstR.form {w : World} {B : Nat} {u : Value} {ps : List (Int × Int)} {bad : Prop} (h : LstR w B u ps bad) : ∃ U n, u = .slice U n n := by
  rcases h with ⟨rfl, _⟩ | ⟨g, n, rfl, _⟩
  · exact ⟨none, 0, rfl⟩
  · exact ⟨_, n, rfl⟩
theorem LstR.below {w : World} {B : Nat} {u : Value} {ps : List (Int × Int)} {bad : Prop} (h : LstR w B u ps bad) : ∀ g n, u = .slice (some ⟨g, 0, none⟩) n n → B ≤ g ∧ g < w.heap.size := by
  intro g n e
  rcases h with ⟨rfl, _⟩ | ⟨g', n', rfl, _, h3, h4⟩
  · cases e
  · cases e; exact ⟨h3, h4.lt⟩
theorem LstR.pairs {w : World} {B : Nat} {U : Option Addr} {n : Nat} {ps : List (Int × Int)} {bad : Prop} (h : LstR w B (.slice U n n) ps bad) : Pairs w w.heap.size U n ps := by
  rcases h with ⟨h1, h2, _⟩ | ⟨g, m, h1, h2, _, h4⟩
  · cases h1; subst h2; exact ⟨rfl, fun h => absurd h (by omega)⟩
  · cases h1; exact h2 ▸ h4.pairs

/-- What note leaves. -/
def GotNote (w : World) (C c : Nat) (aE aM aS aL : Addr) (bs : List Int) (e : Ending) (w' : World) : Prop :=
  ∃ (k : Int) (U V : Option Addr) (un vn : Nat) (ps qs : List (Int × Int)), e = .returned (.agg (noteA (rdNote bs).1 (.slice U un un) (.slice V vn vn))) ∧ Hid (ps = (rdNote bs).2.1) ∧ Hid (qs = (rdNote bs).2.2.1) ∧ 0 ≤ k ∧ k ≤ 100 ∧ Cu w' C c aE aM aS aL k (rdNote bs).2.2.2 ∧ LstR w' w.heap.size (.slice U un un) ps ((rdNote bs).2.2.2 = none) ∧ LstR w' w.heap.size (.slice V vn vn) qs ((rdNote bs).2.2.2 = none) ∧
    (∀ g g', U = some ⟨g, 0, none⟩ → V = some ⟨g', 0, none⟩ → g ≠ g') ∧ w.grownBy w' (some c)

set_option maxRecDepth 100000 in
set_option maxHeartbeats 4000000 in
theorem note_is (aE aM aS aL : Addr) (B C c : Nat) (bs : List Int) (w : World) (hE : Errs w B aE aM aS aL) (hBw : B ≤ w.heap.size) (hBc : B ≤ c) (hCc : C ≤ c) (h : Cu w C c aE aM aS aL 0 (some bs)) (hB : Bys bs) :
    Calls Tryd.prog 44 #[.pointer (some ⟨c, 0, none⟩)] w (GotNote w C c aE aM aS aL bs) := by
  have hcl := h.lt
  have E0 := bel_trans (bel_alloc w (.cells ZN 31)) (bel_alloc _ (.cells ZN 31))
  have Z0 := (Box.new w 31 ZN).alloc (.cells ZN 31)
  have N0 := Box.new (w.alloc (.cells ZN 31)) 31 ZN
  simp only [World.size_alloc] at N0
  have C0 := Lib.hid (h.later E0 hCc)
  have R0 := Lib.hid (hE.later E0 hBw)
  have hs0 : Hid (((w.alloc (.cells ZN 31)).alloc (.cells ZN 31)).heap.size = w.heap.size + 1 + 1) := Lib.hid (by simp)
  have HB := Lib.hid hB
  have HH : Hid ((asks 14 (some bs)).1.length = 14) := Lib.hid (asks_len _ _)
  have b1 := Lib.hid (asks_bys 14 (s := some bs) hB)
  clear h hE hB
  go_enter Tryd.func44, Tryd.ntmps44
  go_upto_region 2 with fail
  rw [show (#[.int .i64 0, .int .i64 0, .int .i64 0, .int .i64 0, .int .i64 0, .int .i64 0, .int .i64 0, .int .i64 0, .int .i64 0, .int .i64 0, .int .i64 0, .slice none 0 0, .slice none 0 0, .int .i64 0, .int .i64 0, .int .i64 0] : Array Value) = ZN from rfl]
  generalize ((w.alloc _).alloc _ : World) = w0 at E0 Z0 N0 C0 R0 hs0 ⊢
  go_wp2_with fail
  refine (numbers_is (w.heap.size + 1) w0).mono ?_
  rintro e w1 ⟨rfl, hR, hb⟩
  have C1 := Lib.hid (C0.out.later hb hCc)
  have R1 := Lib.hid (R0.out.later hb (by have := E0.size; omega))
  have Z1 := Z0.later hb Z0.lt
  have N1 := N0.later hb N0.lt
  have E1 := bel_trans E0 hb
  have hs1 := hb.size
  have hs0' : w.heap.size + 1 + 1 ≤ w0.heap.size := by rw [hs0.out]; exact Nat.le_refl _
  replace hR := Lib.hid hR
  clear C0 R0 Z0 N0 E0 hb hs0
  have hF := fill_is aE aM aS aL B C c w0.heap.size (w.heap.size + 1) 14 14 31 57 ZN (ptrs (w.heap.size + 1)) offs14 0 (some bs) w1 (by omega) (by omega) R1.out (by have := E1.size; omega) hBc (by omega) hCc (by omega) (by omega) (by omega) (by omega) C1.out N1 hR.out rfl (by omega) (fun i hi => ptrs_off _ i hi) (fun i hi => zn_off i hi)
  replace hF := Lib.hid hF
  go_wp2_with fail
  refine hF.out.mono ?_
  rintro e w2 ⟨rfl, C2, N2, G2⟩
  have hw1 := E1.size
  have R2 := Lib.hid (G2.errs R1.out (by omega) hBc (by omega))
  have Z2 := G2.box Z1 (by omega) (by omega)
  have hG2 : w.grownBy w2 (some c) := ⟨G2.os.trans E1.os, G2.tape.trans E1.tape, G2.output.trans E1.output, Nat.le_trans E1.size G2.size, fun j hj hne => (G2.block j (by omega) (fun e => hne (by rw [e])) (by omega)).trans (E1.block j hj)⟩
  have hs2 := G2.size
  replace C2 := Lib.hid C2
  clear C1 R1 Z1 N1 E1 G2 hR
  generalize ha : asks offs14.length (some bs) = a14 at C2 N2
  have ha' : Hid (asks 14 (some bs) = a14) := Lib.hid ha
  clear ha
  go_wp2_with fail
  refine (seals_is aE aM aS aL B C c 14 a14.2 w2 (by omega) (by omega) R2.out (by omega) hBc hCc (by simpa [offs14] using C2.out) (by rw [← ha'.out]; exact b1.out)).mono ?_
  rintro e w3 ⟨k3, u, ps, rfl, hps, hk30, hk31, C3, hg3, L3⟩
  have R3 := Lib.hid (R2.out.kept hg3 (by omega) hBc)
  have Z3 := Z2.kept hg3 (by intro e; injection e with e; omega)
  have N3 := N2.kept hg3 (by intro e; injection e with e; omega)
  have hs3 := hg3.size
  have L3' : LstR w3 w2.heap.size u ps ((askSeals a14.2).2 = none) := L3
  have hu := L3'.one
  have G3 := grown_trans hG2 hg3
  have fr := N3.frozen
  have hsz : (putAll ZN offs14 a14.1).size = 16 := by rw [putAll_size]; rfl
  have c11 := (N3.cell 11).trans (Array.getElem?_eq_getElem (by rw [hsz]; omega))
  generalize (putAll ZN offs14 a14.1)[11] = old11 at c11
  have N4 := N3.set 11 u
  have Z4 := Z3.far (p := ⟨w.heap.size + 1, 11, none⟩) (by simp) u
  have C4 := Lib.hid (C3.set (p := ⟨w.heap.size + 1, 11, none⟩) (by show w.heap.size + 1 ≠ c; omega) (by show C ≤ w.heap.size + 1; omega) u)
  have GG := grown_set (grown_refl w3 (some (w.heap.size + 1))) 11 u
  have R4 := Lib.hid (R3.out.kept GG (by omega) (by omega))
  have L4 := Lib.hid (L3'.kept GG (by omega))
  have G4 := grown_far G3 GG (fun q hq => by injection hq with hq; omega)
  have b2 : Hid (SBys (askSeals a14.2).2) := Lib.hid (askSeals_bys (by rw [← ha'.out]; exact b1.out))
  clear R2 R3 Z2 Z3 N2 N3 C2 C3 hg3 hG2 G3 GG L3 L3'
  obtain ⟨U, un, rfl⟩ := L4.out.form
  have hN4 := Lib.hid N4
  have hs4 : (w3.setCell ⟨w.heap.size + 1, 11, none⟩ (.slice U un un)).heap.size = w3.heap.size := size_set _ _ _
  replace hs4 := Lib.hid hs4
  clear hu hsz
  go_wp2_with fail
  generalize (w3.setCell _ _ : World) = w4 at N4 Z4 C4 R4 L4 G4 hN4 hs4 ⊢
  clear fr c11
  have hw4 : w3.heap.size ≤ w4.heap.size := by rw [hs4.out]; exact Nat.le_refl _
  refine (seals_is aE aM aS aL B C c k3 (askSeals a14.2).2 w4 (by omega) (by omega) R4.out (by omega) hBc hCc C4.out b2.out).mono ?_
  rintro e w5 ⟨k5, v, qs, rfl, hqs, hk50, hk51, C5, hg5, L5⟩
  have L5' : LstR w5 w4.heap.size v qs ((askSeals (askSeals a14.2).2).2 = none) := L5
  obtain ⟨V, vn, rfl⟩ := L5'.form
  have hap : Hid (∀ g g', U = some ⟨g, 0, none⟩ → V = some ⟨g', 0, none⟩ → g ≠ g') := Lib.hid (by
    rintro g g' rfl rfl
    have h1 := (L4.out.below g un rfl).2
    have h2 := (L5'.below g' vn rfl).1
    omega)
  have R5 := Lib.hid (R4.out.kept hg5 (by omega) hBc)
  have Z5 := Z4.kept hg5 (by intro e; injection e with e; omega)
  have N5 := N4.kept hg5 (by intro e; injection e with e; omega)
  have hs5 := hg5.size
  have G5 := grown_trans G4 hg5
  have Lu5 := L4.out.kept hg5 (by omega)
  have fr := N5.frozen
  have hsz : ((putAll ZN offs14 a14.1).setIfInBounds 11 (.slice U un un)).size = 16 := by rw [Array.size_setIfInBounds, putAll_size]; rfl
  have c12 := (N5.cell 12).trans (Array.getElem?_eq_getElem (by rw [hsz]; omega))
  generalize ((putAll ZN offs14 a14.1).setIfInBounds 11 (.slice U un un))[12] = old12 at c12
  have hxs : a14.1.length = 14 := by rw [← ha'.out]; exact asks_len _ _
  have N6 : Box _ (w.heap.size + 1) 31 (noteA a14.1 (.slice U un un) (.slice V vn vn)) := (put14 hxs _ _) ▸ (N5.set 12 (.slice V vn vn))
  have Z6 := Z5.far (p := ⟨w.heap.size + 1, 12, none⟩) (by simp) (.slice V vn vn)
  have C6 := Lib.hid (C5.set (p := ⟨w.heap.size + 1, 12, none⟩) (by show w.heap.size + 1 ≠ c; omega) (by show C ≤ w.heap.size + 1; omega) (.slice V vn vn))
  have GG := grown_set (grown_refl w5 (some (w.heap.size + 1))) 12 (.slice V vn vn)
  have Lu6 := Lu5.kept GG (by omega)
  have Lv6 := L5'.kept GG (by omega)
  have G6 := grown_far G5 GG (fun q hq => by injection hq with hq; omega)
  have HI := Lib.hid (noteA_shape a14.1 (.slice U un un) (.slice V vn vn)).info
  have HS := Lib.hid (show ZN.size = (noteA a14.1 (.slice U un un) (.slice V vn vn)).size from rfl)
  have H1 := Lib.hid ((noteA_shape a14.1 (.slice U un un) (.slice V vn vn)).one rfl rfl)
  have GR := grown_setRow (grown_refl (w5.setCell ⟨w.heap.size + 1, 12, none⟩ (.slice V vn vn)) (some w.heap.size)) (noteA a14.1 (.slice U un un) (.slice V vn vn))
  have hK := Lib.hid (Z6.setRow (noteA a14.1 (.slice U un un) (.slice V vn vn)))
  have hC7 : Hid (Cu ((w5.setCell ⟨w.heap.size + 1, 12, none⟩ (.slice V vn vn)).setRow w.heap.size (noteA a14.1 (.slice U un un) (.slice V vn vn))) C c aE aM aS aL k5 (askSeals (askSeals a14.2).2).2) := Lib.hid (C6.out.keep (heap_setRow _ _ _ _ (by omega)) (fun b hb => heap_setRow _ _ _ _ (by omega)))
  have hLu := Lib.hid ((Lu6.kept GR (by omega)).base (B' := w.heap.size) (by omega))
  have hLv := Lib.hid ((Lv6.kept GR (by omega)).base (B' := w.heap.size) (by omega))
  have hG7 := Lib.hid (grown_far G6 GR (fun q hq => by injection hq with hq; omega))
  replace N6 := Lib.hid N6
  replace Z6 := Lib.hid Z6
  clear R4 R5 Z4 Z5 N4 N5 C4 C5 C6 hg5 G4 G5 G6 GG GR L4 L5 L5' Lu5 Lu6 Lv6 hN4 hsz hxs
  go_wp2_with (first | (refine wpList_load_box 31 _ rfl (w.heap.size + 1) rfl 31 _ N6.out _ Tryd.underlying31 rfl HI.out (by simp [Region.wanted, yielded]) ?_) | (refine wpList_store_row rfl 31 _ _ rfl w.heap.size _ rfl rfl 31 ZN Z6.out HI.out HS.out H1.out ?_))
  have hrd : rdNote bs = (a14.1, (askSeals a14.2).1, (askSeals (askSeals a14.2).2).1, (askSeals (askSeals a14.2).2).2) := by unfold rdNote; rw [ha'.out]
  refine bodyPost_ret (results_cell_row Tryd.results44 _ _ w.heap.size 31 _ (0, 0) _ rfl hK.out Tryd.underlying31 rfl HI.out) rfl ⟨k5, U, V, un, vn, ps, qs, ?_, ?_, ?_, by omega, by omega, ?_, ?_, ?_, hap.out, hG7.out⟩
  · rw [hrd]
  · rw [hrd]; exact hps
  · rw [hrd]; exact hqs
  · rw [hrd]; exact hC7.out
  · rw [hrd]; exact hLu.out.as (fun e => by show (askSeals (askSeals a14.2).2).2 = none; rw [e, askSeals_none])
  · rw [hrd]; exact hLv.out

end Go.Proofs.YtgjbebfcbpfngaaDoor
