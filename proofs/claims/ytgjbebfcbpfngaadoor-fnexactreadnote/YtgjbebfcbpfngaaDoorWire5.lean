/- What readNumber of impl/l06_wire.go answers: its contract; the conditions are where the errors lie. -/
import Derived.Test.YtgjbebfcbpfngaaDoorWireRead
import Derived.Test.YtgjbebfcbpfngaaDoorCopiesBytes
import Derived.Test.YtgjbebfcbpfngaaDoorWireErr
import Derived.BigQuiet
import Derived.Deep.QuietTactic
namespace Go.Proofs.YtgjbebfcbpfngaaDoor
open Go.RowKit Go.Deep

/-- An error of errors.New's make. -/
abbrev ev (a : Addr) : Value := .iface 154 (.pointer (some a))
/-- The package's errors, all in blocks below B. -/
structure Errs (w : World) (B : Nat) (aE aM aS aL : Addr) : Prop where
  e0 : w.cell? ⟨0, 0, none⟩ = some (.iface 154 (.pointer (some aE)))
  e1 : w.cell? ⟨1, 0, none⟩ = some (.iface 154 (.pointer (some aM)))
  e2 : w.cell? ⟨2, 0, none⟩ = some (.iface 139 (.agg #[.pointer (some ⟨5, 69, none⟩)]))
  e3 : w.cell? ⟨3, 0, none⟩ = some (.iface 154 (.pointer (some aS)))
  e4 : w.cell? ⟨4, 0, none⟩ = some (.iface 154 (.pointer (some aL)))
  hE : ∃ c t, w.heap[aE.block]? = some (.cells c t (0, 0))
  hM : ∃ c t, w.heap[aM.block]? = some (.cells c t (0, 0))
  hS : ∃ c t, w.heap[aS.block]? = some (.cells c t (0, 0))
  hL : ∃ c t, w.heap[aL.block]? = some (.cells c t (0, 0))
  nM : aM ≠ aE
  nS : aS ≠ aE
  nL : aL ≠ aE
  lt : 4 < B ∧ aE.block < B ∧ aM.block < B ∧ aS.block < B ∧ aL.block < B
theorem Errs.keep {w w' : World} {B : Nat} {aE aM aS aL : Addr} (h : Errs w B aE aM aS aL) (hk : ∀ k, k < B → w'.heap[k]? = w.heap[k]?) : Errs w' B aE aM aS aL := by
  obtain ⟨e0, e1, e2, e3, e4, hE, hM, hS, hL, nM, nS, nL, lt⟩ := h
  exact ⟨(World.cell?_of_block (w := w) (hk 0 (by omega))).trans e0, (World.cell?_of_block (w := w) (hk 1 (by omega))).trans e1, (World.cell?_of_block (w := w) (hk 2 (by omega))).trans e2, (World.cell?_of_block (w := w) (hk 3 (by omega))).trans e3, (World.cell?_of_block (w := w) (hk 4 (by omega))).trans e4,
    by rw [hk _ lt.2.1]; exact hE, by rw [hk _ lt.2.2.1]; exact hM, by rw [hk _ lt.2.2.2.1]; exact hS, by rw [hk _ lt.2.2.2.2]; exact hL, nM, nS, nL, lt⟩
theorem Errs.later {w w' : World} {B C : Nat} {aE aM aS aL : Addr} (h : Errs w B aE aM aS aL) (hb : Below C w w') (hBC : B ≤ C) : Errs w' B aE aM aS aL := h.keep fun k hk => hb.block k (by omega)
theorem Errs.kept {w w' : World} {B r : Nat} {aE aM aS aL : Addr} (h : Errs w B aE aM aS aL) (hg : w.grownBy w' (some r)) (hB : B ≤ w.heap.size) (hr : B ≤ r) : Errs w' B aE aM aS aL :=
  h.keep fun k hk => hg.block k (by omega) (by intro e; injection e with e; omega)

/-- How far a number is read: i bytes of it, N so far, the next one's worth W. -/
def RdAt (r : List Int) (i : Nat) (N W : Int) : Prop := num r = (numF (5 - i) (decide (i = 0)) (r.drop i)).map fun p => (N + p.1 * W, p.2 + i)
theorem RdAt.start (r : List Int) : RdAt r 0 0 1 := by
  unfold RdAt num
  cases e : numF 5 true r with
  | none => simp [e]
  | some p => simp [e]
theorem drop_nth {r : List Int} {i : Nat} (h : i < r.length) : r.drop i = nth r i :: r.drop (i + 1) := by
  rw [nth_lt h]; exact List.drop_eq_getElem_cons h
theorem RdAt.short {r : List Int} {i : Nat} {N W : Int} (h : RdAt r i N W) (hi : i < r.length) (h5 : i < 5) (hz : nth r i = 0) (h0 : 0 < i) : num r = none := by
  unfold RdAt at h
  obtain ⟨f, hf⟩ : ∃ f, 5 - i = f + 1 := ⟨4 - i, by omega⟩
  rw [h, drop_nth hi, hf, numF, if_pos ⟨hz, by simp; omega⟩]
  rfl
theorem RdAt.last {r : List Int} {i : Nat} {N W z : Int} (h : RdAt r i N W) (hi : i < r.length) (h5 : i < 5) (hz : nth r i = z) (hn : ¬ (z = 0 ∧ 0 < i)) (hlt : z < 128) : num r = some (N + z * W, i + 1) := by
  unfold RdAt at h
  obtain ⟨f, hf⟩ : ∃ f, 5 - i = f + 1 := ⟨4 - i, by omega⟩
  rw [h, drop_nth hi, hf, numF, if_neg (by rw [hz]; intro e; exact hn ⟨e.1, by simpa [Nat.pos_iff_ne_zero] using e.2⟩), if_pos (by rw [hz]; exact hlt), hz]
  simp [Nat.add_comm]
theorem RdAt.step {r : List Int} {i : Nat} {N W z : Int} (h : RdAt r i N W) (hi : i < r.length) (h5 : i < 5) (hz : nth r i = z) (hge : ¬ z < 128) : RdAt r (i + 1) (N + (z - 128) * W) (W * 128) := by
  unfold RdAt at h ⊢
  obtain ⟨f, hf⟩ : ∃ f, 5 - i = f + 1 := ⟨4 - i, by omega⟩
  have hf' : 5 - (i + 1) = f := by omega
  rw [h, drop_nth hi, hf, numF, if_neg (by rw [hz]; omega), if_neg (by rw [hz]; exact hge), hz, hf']
  have : decide (i + 1 = 0) = false := by simp
  rw [this]
  cases numF f false (r.drop (i + 1)) with
  | none => rfl
  | some p =>
    simp only [Option.map_some, Option.some.injEq, Prod.mk.injEq]
    refine ⟨?_, by omega⟩
    rw [Int.add_mul (z - 128) (128 * p.1) W, Int.add_assoc]
    congr 2
    rw [Int.mul_comm 128 p.1, Int.mul_assoc, Int.mul_comm 128 W]
theorem RdAt.none5 {r : List Int} {N W : Int} (h : RdAt r 5 N W) : num r = none := by unfold RdAt at h; rw [h]; rfl
theorem RdAt.noneEnd {r : List Int} {i : Nat} {N W : Int} (h : RdAt r i N W) (hi : r.length ≤ i) : num r = none := by
  unfold RdAt at h
  rw [h, List.drop_eq_nil_of_le hi]
  cases 5 - i <;> rfl

/-- What readNumber leaves. -/
def RdPost (w : World) (aE aS aL : Addr) (r : List Int) (e : Ending) (w' : World) : Prop :=
  Below w.heap.size w w' ∧ ((∃ (x : Int) (k : Nat), num r = some (x, k) ∧ e = .returned (.tuple #[.int .i64 x, .int .i64 k, .nilIface])) ∨
    (num r = none ∧ ∃ a, e = .returned (.tuple #[.int .i64 0, .int .i64 0, .iface 154 (.pointer (some a))]) ∧ ((r = [] ∧ a = aE) ∨ (r ≠ [] ∧ (a = aS ∨ a = aL)))))

theorem rd_nil (aE aM aS aL : Addr) (B : Nat) (A : Option Addr) (cap : Nat) (w : World) (hE : Errs w B aE aM aS aL) :
    Calls Tryd.prog 99 #[.slice A 0 cap] w (RdPost w aE aS aL []) := by
  have e0 := hE.e0
  go_enter Tryd.func99, Tryd.ntmps99
  go_wp2_with fail
  go_quiet (fail)
  go_wp2
  refine bodyPost_ret (v := .tuple #[.int .i64 0, .int .i64 0, .iface 154 (.pointer (some aE))]) (by simp [results, Tryd.results99, go_sem]) rfl ?_
  exact ⟨bel_drewN (Below.refl _ _) _, .inr ⟨rfl, aE, rfl, .inl ⟨rfl, rfl⟩⟩⟩

set_option maxRecDepth 100000 in
set_option maxHeartbeats 4000000 in
theorem rd_some (aE aM aS aL : Addr) (B b o n m cap : Nat) (r : List Int) (w : World) (hE : Errs w B aE aM aS aL) (hl : r.length = n) (hc : ∀ i, i < n → w.cell? ⟨b, o + i, none⟩ = some (.int .u8 (nth r i))) (hB : Bys r) (hn : 0 < n) (hx : n ≤ maxLen) (hcap : n ≤ cap) (hm : m = min n 5) :
    Calls Tryd.prog 99 #[.slice (some ⟨b, o, none⟩) n cap] w (RdPost w aE aS aL r) := by
  unfold maxLen at hx
  have e3 := hE.e3
  have e4 := hE.e4
  have HL := Lib.hid hl
  have HC := Lib.hid hc
  have HB := Lib.hid hB
  have HR : Hid (r ≠ []) := Lib.hid (by intro e; subst e; simp at hl; omega)
  have m0 : 0 < m := by omega
  have m5 : m ≤ 5 := by omega
  have mn : m ≤ n := by omega
  have mz := Lib.hid (show m < 5 → m = n by omega)
  clear hl hc hB hE
  have hn0 : ((n : Int) == 0) = false := by simp; omega
  have HM := Lib.hid hm
  clear hm
  go_enter Tryd.func99, Tryd.ntmps99
  go_upto_region 4 with fail
  go_cut [17, 18, 19] (fun v u i wr => v = .slice (some ⟨b, o, none⟩) m cap ∧ u = .int .i64 m ∧ i = .int .i64 0 ∧ w = wr)
  case first =>
    rcases Nat.lt_or_ge 5 n with h5 | h5
    · obtain rfl : m = 5 := by have := HM.out; omega
      have h5' : ¬ (n : Int) ≤ 5 := by omega
      go_wp2_with fail
      go_meet
      exact ⟨rfl, rfl, rfl, rfl⟩
    · obtain rfl : m = n := by have := HM.out; omega
      have h5' : (m : Int) ≤ 5 := by omega
      go_wp2_with fail
      go_meet
      exact ⟨rfl, rfl, rfl, rfl⟩
  case rest =>
  obtain ⟨rfl, rfl, rfl, rfl⟩ := hcut
  go_wp2_with fail
  go_loopw [5, 6, 19] (fun nv wv iv wr => ∃ (i : Nat) (N W : Int), i ≤ m ∧ nv = .int .i64 N ∧ wv = .int .i64 W ∧ iv = .int .i64 i ∧ 0 ≤ N ∧ N < W ∧ W = 128 ^ i ∧ Hid (RdAt r i N W) ∧ w = wr) (fun _ _ i _ => m - (intOf i).toNat)
  case atStart => exact ⟨0, 0, 1, Nat.zero_le _, rfl, rfl, rfl, by omega, by omega, rfl, Lib.hid (RdAt.start r), rfl⟩
  case round =>
    obtain ⟨i, N, W, hi, rfl, rfl, rfl, hN0, hNW, hW, hrd, rfl⟩ := hrel
    by_cases hlt : i < m
    · have hWb : 1 ≤ W ∧ W ≤ 268435456 := by
        obtain rfl | rfl | rfl | rfl | rfl : i = 0 ∨ i = 1 ∨ i = 2 ∨ i = 3 ∨ i = 4 := by omega
        all_goals (subst hW; decide)
      obtain ⟨hW1, hW2⟩ := hWb
      have hlt' : (i : Int) < (m : Int) := by omega
      have hir : Hid (i < r.length) := Lib.hid (by rw [HL.out]; omega)
      have c0 := HC.out i (by omega)
      have hz := HB.out (nth r i) (by rw [nth_lt hir.out]; exact List.getElem_mem _)
      generalize hzz : nth r i = z at c0 hz
      obtain ⟨hz0, hz1⟩ := hz
      replace hzz := Lib.hid hzz
      replace hW := Lib.hid hW
      by_cases h0 : z = 0
      · by_cases hi0 : 0 < i
        · have hno := Lib.hid (hrd.out.short hir.out (by omega) (by rw [hzz.out]; exact h0) hi0)
          subst h0
          have hi0' : (0 : Int) < (i : Int) := by omega
          go_wp2_with fail
          go_quiet (fail)
          go_wp2
          refine bodyPost_ret (v := .tuple #[.int .i64 0, .int .i64 0, .iface 154 (.pointer (some aS))]) (by simp [results, Tryd.results99, go_sem]) rfl ?_
          exact ⟨bel_drewN (Below.refl _ _) _, .inr ⟨hno.out, aS, rfl, .inr ⟨HR.out, .inl rfl⟩⟩⟩
        · have hsm := Lib.hid (hrd.out.last hir.out (by omega) hzz.out (by omega) (by omega))
          subst h0
          have hi0' : ¬ (0 : Int) < (i : Int) := by omega
          go_wp2
          refine bodyPost_ret (v := .tuple #[.int .i64 N, .int .i64 (i + 1), .nilIface]) (by simp [results, Tryd.results99, go_sem]) rfl ?_
          exact ⟨Below.refl _ _, .inl ⟨N, i + 1, by simpa using hsm.out, by simp⟩⟩
      · have h0' : (z == 0) = false := by simpa using h0
        have hzW : 0 ≤ z * W := Int.mul_nonneg hz0 (by omega)
        have hzW2 : z * W ≤ 255 * 268435456 := Int.mul_le_mul hz1 hW2 (by omega) (by omega)
        by_cases h128 : z < 128
        · have hsm := Lib.hid (hrd.out.last hir.out (by omega) hzz.out (by omega) h128)
          go_wp2
          refine bodyPost_ret (v := .tuple #[.int .i64 (N + z * W), .int .i64 (i + 1), .nilIface]) (by simp [results, Tryd.results99, go_sem]) rfl ?_
          exact ⟨Below.refl _ _, .inl ⟨N + z * W, i + 1, hsm.out, by simp⟩⟩
        · have hst := Lib.hid (hrd.out.step hir.out (by omega) hzz.out h128)
          have hq0 : 0 ≤ (z - 128) * W := Int.mul_nonneg (by omega) (by omega)
          have hq1 : (z - 128) * W ≤ 127 * W := Int.mul_le_mul_of_nonneg_right (by omega) (by omega)
          have hw8 : IntKind.u8.wrap (z - 128) = z - 128 := by rw [IntKind.wrap_u8]; omega
          go_wp2
          go_roundw
          case rel => exact ⟨i + 1, N + (z - 128) * W, W * 128, by omega, rfl, rfl, by go_num, by omega, by omega, by rw [hW.out, Int.pow_succ], hst, trivial⟩
          case measure => simp [intOf]; omega
    · have hno : Hid (num r = none) := Lib.hid (by
        obtain rfl : i = m := by omega
        by_cases h5 : i = 5
        · subst h5; exact hrd.out.none5
        · exact hrd.out.noneEnd (by rw [HL.out]; have := mz.out (by omega); omega))
      have hlt' : ¬ (i : Int) < (m : Int) := by omega
      replace hW := Lib.hid hW
      go_wp2_with fail
      go_quiet (fail)
      go_wp2
      refine bodyPost_ret (v := .tuple #[.int .i64 0, .int .i64 0, .iface 154 (.pointer (some aL))]) (by simp [results, Tryd.results99, go_sem]) rfl ?_
      exact ⟨bel_drewN (Below.refl _ _) _, .inr ⟨hno.out, aL, rfl, .inr ⟨HR.out, .inr rfl⟩⟩⟩

theorem readNumber_is (aE aM aS aL : Addr) (B C : Nat) (A : Option Addr) (n cap : Nat) (r : List Int) (w : World) (hE : Errs w B aE aM aS aL) (hr : BRow w C A n r) (hB : Bys r) (hx : n ≤ maxLen) (hcap : n ≤ cap) :
    Calls Tryd.prog 99 #[.slice A n cap] w (RdPost w aE aS aL r) := by
  rcases Nat.eq_zero_or_pos n with h | h
  · subst h
    obtain rfl : r = [] := List.length_eq_zero_iff.1 hr.1
    exact rd_nil aE aM aS aL B A cap w hE
  · obtain ⟨b, o, rfl, _, hc⟩ := hr.2 h
    exact rd_some aE aM aS aL B b o n (min n 5) cap r w hE hr.1 hc hB h hx hcap rfl

end Go.Proofs.YtgjbebfcbpfngaaDoor
