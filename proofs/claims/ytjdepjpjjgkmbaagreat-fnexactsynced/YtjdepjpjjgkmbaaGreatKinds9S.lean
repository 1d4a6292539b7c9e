/- The laws' helpers over lists of records: the size, held against what is left; conditions: the sizes. -/
import Derived.Test.YtjdepjpjjgkmbaaGreatKinds9
import Derived.Test.YtjdepjpjjgkmbaaGreatRecsBlock
import Derived.Test.YtjdepjpjjgkmbaaGreatRepData
namespace Go.Proofs.YtjdepjpjjgkmbaaGreat
open Go Go.RowKit

theorem totC_rest (ds : List RecD) (k : Nat) : totC (ds.take k) + (ds.length - k) ≤ totC ds := by
  have h : totC (ds.take k) + totC (ds.drop k) = totC ds := by
    unfold totC
    rw [← List.sum_append, ← List.map_append, List.take_append_drop]
  have key : ∀ l : List RecD, l.length ≤ totC l := by
    intro l
    unfold totC
    induction l with
    | nil => exact Nat.zero_le _
    | cons d l ih => simp only [List.map_cons, List.sum_cons, List.length_cons]; omega
  have h2 := key (ds.drop k)
  rw [List.length_drop] at h2
  omega
theorem totC_zero (ds : List RecD) : totC (ds.take 0) = 0 := by simp [totC]
theorem RecsF.atC {ds : List RecD} {w : World} {F : Nat → Prop} {b o n : Nat} (h : RecsF ds w F (some ⟨b, o, none⟩) n) {k : Nat} (hk : k < ds.length) (hn : 0 < n) : ∃ L m mc, RecAt w b (o + k * 9) ds[k] (.slice L m mc) ∧ AtC ds[k] w F (.agg #[.int .i64 (ds[k]).r1, .int .i64 (ds[k]).r2, .int .i64 (ds[k]).r3, .int .i64 (ds[k]).r4, .int .i64 (ds[k]).r5, .int .i64 (ds[k]).r6, .int .i64 (ds[k]).r7, .slice L m mc, .int .i64 (ds[k]).r8]) := by
  obtain ⟨b', o', hA, -, -, hc⟩ := h.2 hn
  injection hA with hA
  injection hA with e1 e2
  subst e1 e2
  obtain ⟨L, m, mc, h1, h2, h3⟩ := hc k hk
  exact ⟨L, m, mc, h1, L, m, mc, rfl, h2, h3⟩

set_option maxRecDepth 100000 in
set_option maxHeartbeats 4000000 in
theorem sz_CS {ds : List RecD} {w : World} {F : Nat → Prop} {A : Option Addr} {n cap : Nat} {L : Int} (h : RecsF ds w F A n) (hm : n ≤ maxLen) (h0 : 0 ≤ L) (h1 : L ≤ 1048576) :
    Calls Tryz.prog 84 #[.slice A n cap, .int .i64 L] w fun e w' => Left L (totC ds) e ∧ Below w.heap.size w w' := by
  have HL := Lib.hid h.1
  have HH := Lib.hid h
  have HR := Lib.hid (totC_rest ds)
  have hw1 : IntKind.i64.wrap (L - (n : Int)) = L - (n : Int) := IntWalk.i64_in _ (by unfold maxLen at hm; omega)
  clear h
  go_enter Tryz.func84, Tryz.ntmps84
  by_cases hneg : L - (n : Int) < 0
  · go_wp2
    go_ret
    refine ⟨⟨-1, rfl, fun h => ?_, fun _ => by omega⟩, Below.refl _ _⟩
    have := HR.out 0
    have := HL.out
    omega
  · have hnn : n ≤ 1048576 := by omega
    go_wp2
    go_loopw [1, 5] (fun s i wr => ∃ k : Nat, k ≤ n ∧ i = .int .i64 k ∧ s = .int .i64 (L - n + k - totC (ds.take k)) ∧ totC (ds.take k) + n ≤ L + k ∧ Below w.heap.size w wr) (fun _ i _ => n - (intOf i).toNat)
    case atStart => exact ⟨0, Nat.zero_le _, rfl, by rw [totC_zero]; simp, by rw [totC_zero]; omega, Below.refl _ _⟩
    case round =>
      obtain ⟨k, hk, rfl, rfl, hs, hb⟩ := hrel
      by_cases hlt : k < n
      · have hkd : k < ds.length := by have := HL.out; omega
        have hD := HH.out.later hb
        obtain ⟨b, o, hA, -, hbl, -⟩ := hD.2 (by omega)
        subst hA
        obtain ⟨L', m, mc, hrec, hat⟩ := hD.atC hkd (by omega)
        have hsn := totC_snoc ds hkd
        have hrr := HR.out (k + 1)
        obtain ⟨d, hd⟩ : ∃ d : RecD, ds[k] = d := ⟨_, rfl⟩
        rw [hd] at hrec hat hsn
        have hll := HL.out
        obtain ⟨c0, c1, c2, c3, c4, c5, c6, c7, c8⟩ := hrec
        have hltI : (k : Int) < (n : Int) := by omega
        have hkw : IntKind.i64.wrap ((k : Int) + 1) = (k : Int) + 1 := IntWalk.i64_in _ (by omega)
        have hsz : d.sz = d.ps.length := rfl
        have HAT := Lib.hid hat
        have HSN := Lib.hid hsn
        have HRR := Lib.hid hrr
        have HLL := Lib.hid hll
        have HSZ := Lib.hid hsz
        clear hd hD hat hsn hrr hll hsz
        by_cases hover : L - n + k - totC (ds.take k) < d.sz
        · go_wp2_with (go_at_call 146; refine (sz_C HAT.out (by omega) (by omega)).mono ?_; rintro e w2 ⟨⟨v, rfl, -, hv⟩, hb2⟩; replace hv := hv (by omega))
          go_ret
          refine ⟨⟨-1, rfl, fun h => ?_, fun _ => by omega⟩, bel_trans hb hb2⟩
          have := HRR.out
          have := HSN.out
          have := HLL.out
          have := HSZ.out
          omega
        · go_wp2_with (go_at_call 146; refine (sz_C HAT.out (by omega) (by omega)).mono ?_; rintro e w2 ⟨⟨v, rfl, hv, -⟩, hb2⟩; replace hv := hv (by omega); have hv0 : ¬ v < 0 := by omega)
          go_roundw
          case rel => exact ⟨k + 1, by omega, by go_num, by rw [HSN.out, HSZ.out]; congr 1; omega, by rw [HSN.out]; have := HSZ.out; omega, bel_trans hb hb2⟩
          case measure => simp [intOf]; omega
      · have hkn : k = n := by omega
        subst hkn
        have hfull : ds.take k = ds := List.take_of_length_le (by have := HL.out; omega)
        rw [hfull] at hs ⊢
        go_wp2
        go_ret
        exact ⟨⟨_, rfl, fun _ => by omega, fun h => by omega⟩, hb⟩
theorem atAfter {d : RecD} {w : World} {F : Nat → Prop} {v : Value} (h : AtC d w F v) (pw : After w) : AtC d pw.x F v := (keepsC d).later h pw.bel
set_option maxRecDepth 100000 in
set_option maxHeartbeats 4000000 in
theorem eq_CS {ds : List RecD} {w : World} {F F' : Nat → Prop} {A A' : Option Addr} {n cap cap' : Nat} (h : RecsF ds w F A n) (h' : RecsF ds w F' A' n) (hz : totC ds ≤ 1048576) :
    Calls Tryz.prog 88 #[.slice A n cap, .slice A' n cap'] w fun e w' => e = .returned (.bool true) ∧ Below w.heap.size w w' := by
  have HL := Lib.hid h.1
  have HH := Lib.hid h
  have HH' := Lib.hid h'
  have hnn : n ≤ 1048576 := by have := totC_rest ds 0; rw [totC_zero] at this; have := h.1; omega
  have HZ := Lib.hid (fun k (hk : k < ds.length) => totC_mem ds hk)
  clear h h'
  go_enter Tryz.func88, Tryz.ntmps88
  go_wp2
  go_loopw [5] (fun i wr => ∃ k : Nat, k ≤ n ∧ i = .int .i64 k ∧ Below w.heap.size w wr) (fun i _ => n - (intOf i).toNat)
  case atStart => exact ⟨0, Nat.zero_le _, rfl, Below.refl _ _⟩
  case round =>
    obtain ⟨k, hk, rfl, hb⟩ := hrel
    by_cases hlt : k < n
    · have hkd : k < ds.length := by have := HL.out; omega
      have hD := HH.out.later hb
      have hD' := HH'.out.later hb
      obtain ⟨b, o, hA, -, hbl, -⟩ := hD.2 (by omega)
      obtain ⟨b', o', hA', -, hbl', -⟩ := hD'.2 (by omega)
      subst hA hA'
      obtain ⟨L, m, mc, hrec, hat⟩ := hD.atC hkd (by omega)
      obtain ⟨L', m', mc', hrec', hat'⟩ := hD'.atC hkd (by omega)
      have hzz := HZ.out k hkd
      obtain ⟨d, hd⟩ : ∃ d : RecD, ds[k] = d := ⟨_, rfl⟩
      rw [hd] at hrec hat hrec' hat' hzz
      have hsz : d.sz ≤ 1048576 := by unfold RecD.sz; omega
      obtain ⟨c0, c1, c2, c3, c4, c5, c6, c7, c8⟩ := hrec
      obtain ⟨k0, k1, k2, k3, k4, k5, k6, k7, k8⟩ := hrec'
      have f0 := After.cell hbl c0
      have f1 := After.cell hbl c1
      have f2 := After.cell hbl c2
      have f3 := After.cell hbl c3
      have f4 := After.cell hbl c4
      have f5 := After.cell hbl c5
      have f6 := After.cell hbl c6
      have f7 := After.cell hbl c7
      have f8 := After.cell hbl c8
      have e0 := After.cell hbl' k0
      have e1 := After.cell hbl' k1
      have e2 := After.cell hbl' k2
      have e3 := After.cell hbl' k3
      have e4 := After.cell hbl' k4
      have e5 := After.cell hbl' k5
      have e6 := After.cell hbl' k6
      have e7 := After.cell hbl' k7
      have e8 := After.cell hbl' k8
      have hltI : (k : Int) < (n : Int) := by omega
      have hkw : IntKind.i64.wrap ((k : Int) + 1) = (k : Int) + 1 := IntWalk.i64_in _ (by omega)
      have HAT := Lib.hid hat
      have HAT' := Lib.hid hat'
      clear hd hD hD' hat hat' hzz
      go_upto_region 6 with fail
      refine wp_region_after (by kernel_rfl) (by kernel_rfl) ?_
      repeat (first | go_big_quiet_step ((go_at_call 148; exact after_of (eq_C (atAfter HAT.out _) (atAfter HAT'.out _) hsz))) | quiet_step ((go_at_call 148; exact after_of (eq_C (atAfter HAT.out _) (atAfter HAT'.out _) hsz))))
      refine wpQuiet_nil ?_
      intro pw
      clear f0 f1 f2 f3 f4 f5 f6 f7 f8 e0 e1 e2 e3 e4 e5 e6 e7 e8
      go_wp2
      go_roundw
      case rel => exact ⟨k + 1, by omega, by go_num, bel_trans hb pw.bel⟩
      case measure => simp [intOf]; omega
    · have hkn : k = n := by omega
      subst hkn
      go_wp2
      go_ret
      exact ⟨rfl, hb⟩
end Go.Proofs.YtjdepjpjjgkmbaaGreat
