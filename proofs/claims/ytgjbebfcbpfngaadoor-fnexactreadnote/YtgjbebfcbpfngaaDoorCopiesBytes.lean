/- The laws' own copies of bytes, the test that two lists of them are alike, their marks: contracts of each of them. -/
import Derived.Test.YtgjbebfcbpfngaaDoorWire1
import Derived.Test.YtgjbebfcbpfngaaDoorSortWalk
namespace Go.Proofs.YtgjbebfcbpfngaaDoor
open Go.RowKit

/-- The slice of n bytes at A holds bs, in blocks below B. -/
def BRow (w : World) (B : Nat) (A : Option Addr) (n : Nat) (bs : List Int) : Prop :=
  bs.length = n ∧ (0 < n → ∃ b o, A = some ⟨b, o, none⟩ ∧ b < B ∧ ∀ i, i < n → w.cell? ⟨b, o + i, none⟩ = some (.int .u8 (nth bs i)))
theorem BRow.keep {w w' : World} {B : Nat} {A : Option Addr} {n : Nat} {bs : List Int} (h : BRow w B A n bs) (hk : ∀ p : Addr, p.block < B → w'.cell? p = w.cell? p) : BRow w' B A n bs := by
  refine ⟨h.1, fun hn => ?_⟩
  obtain ⟨b, o, hA, hb, hc⟩ := h.2 hn
  exact ⟨b, o, hA, hb, fun i hi => by rw [hk ⟨b, o + i, none⟩ hb]; exact hc i hi⟩
theorem BRow.below {w w' : World} {B C : Nat} {A : Option Addr} {n : Nat} {bs : List Int} (h : BRow w B A n bs) (hb : Below C w w') (hBC : B ≤ C) : BRow w' B A n bs := h.keep fun _ hp => hb.cell (Nat.lt_of_lt_of_le hp hBC)
theorem BRow.more {w : World} {B C : Nat} {A : Option Addr} {n : Nat} {bs : List Int} (h : BRow w B A n bs) (hBC : B ≤ C) : BRow w C A n bs := by
  refine ⟨h.1, fun hn => ?_⟩
  obtain ⟨b, o, hA, hb, hc⟩ := h.2 hn
  exact ⟨b, o, hA, by omega, hc⟩
theorem BRow.later {w w' : World} {A : Option Addr} {n : Nat} {bs : List Int} (h : BRow w w.heap.size A n bs) (hb : Below w.heap.size w w') : BRow w' w'.heap.size A n bs := (h.below hb (Nat.le_refl _)).more hb.size

/-- Block g holds the bytes d, and can be written. -/
structure BHeld (w : World) (g : Nat) (d : List Int) : Prop where
  lt : g < w.heap.size
  fr : ∀ o, w.frozen? ⟨g, o, none⟩ = false
  at0 : ∀ i, i < d.length → w.cell? ⟨g, i, none⟩ = some (.int .u8 (nth d i))
theorem BHeld.later {w w' : World} {g : Nat} {d : List Int} (h : BHeld w g d) (hb : Below w.heap.size w w') : BHeld w' g d :=
  ⟨Nat.lt_of_lt_of_le h.lt hb.size, fun o => (hb.frozen (p := ⟨g, o, none⟩) h.lt).trans (h.fr o), fun i hi => (hb.cell (p := ⟨g, i, none⟩) h.lt).trans (h.at0 i hi)⟩
theorem BHeld.kept {w w' : World} {g : Nat} {d : List Int} {r : Option Nat} (h : BHeld w g d) (hg : w.grownBy w' r) (hne : r ≠ some g) : BHeld w' g d := by
  have e := hg.block g h.lt (fun e => hne e.symm)
  exact ⟨Nat.lt_of_lt_of_le h.lt hg.size, fun o => (World.frozen?_of_block (w := w) (w' := w') (a := ⟨g, o, none⟩) e).trans (h.fr o), fun i hi => (World.cell?_of_block (w := w) (w' := w') (a := ⟨g, i, none⟩) e).trans (h.at0 i hi)⟩
theorem BHeld.row {w : World} {g n : Nat} {d : List Int} (h : BHeld w g d) (hl : d.length = n) : BRow w w.heap.size (some ⟨g, 0, none⟩) n d :=
  ⟨hl, fun _ => ⟨g, 0, rfl, h.lt, fun i hi => by rw [Nat.zero_add]; exact h.at0 i (by omega)⟩⟩
theorem BOwn.held {w : World} {base g cap : Nat} {bs : List Int} (h : BOwn w base g cap bs) : BHeld w g bs := by
  refine ⟨(h.lt g rfl).2, fun o => World.ownsRow.frozenAt h o, fun i hi => ?_⟩
  have h1 := World.ownsRow.cellAt h i (by omega)
  rw [h1, List.getElem?_map, List.getElem?_eq_getElem hi, nth_lt hi]
  rfl
theorem BHeld.put {w : World} {g : Nat} {d : List Int} (h : BHeld w g d) (i : Nat) (x : Int) : BHeld (w.setCell ⟨g, i, none⟩ (.int .u8 x)) g (d.set i x) := by
  refine ⟨by rw [size_set]; exact h.lt, fun o => by simp [h.fr o], fun k hk => ?_⟩
  rw [List.length_set] at hk
  rw [cell_set1 (h.at0 k hk)]
  by_cases e : k = i
  · subst e; simp [nth, hk]
  · rw [if_neg e]; simp [nth, show ¬ i = k by omega]

set_option maxHeartbeats 400000 in
theorem eqBytes_same (A A' : Option Addr) (n cap cap' : Nat) (bs : List Int) (w : World) (hm : n ≤ 1048576) (hr : BRow w w.heap.size A n bs) (hr' : BRow w w.heap.size A' n bs) :
    Calls Tryd.prog 20 #[.slice A n cap, .slice A' n cap'] w fun e w' => e = .returned (.bool true) ∧ Below w.heap.size w w' := by
  have HR := Lib.hid hr
  have HR' := Lib.hid hr'
  clear hr hr'
  go_enter Tryd.func20, Tryd.ntmps20
  go_wp2_with fail
  go_loopw [5] (fun i wr => ∃ k : Nat, k ≤ n ∧ i = .int .i64 k ∧ Below w.heap.size w wr) (fun i _ => n - (intOf i).toNat)
  case atStart => exact ⟨0, Nat.zero_le _, rfl, Below.refl _ _⟩
  case round =>
    obtain ⟨k, hk, rfl, hb⟩ := hrel
    by_cases hlt : k < n
    · obtain ⟨b, o, hA, hbB, hcell⟩ := HR.out.2 (by omega)
      obtain ⟨b', o', hA', hbB', hcell'⟩ := HR'.out.2 (by omega)
      subst hA hA'
      have g0 := (hb.cell (p := ⟨b, o + k, none⟩) hbB).trans (hcell k hlt)
      have h0 := (hb.cell (p := ⟨b', o' + k, none⟩) hbB').trans (hcell' k hlt)
      have hlt' : (k : Int) < (n : Int) := by omega
      generalize nth bs k = x at g0 h0
      clear hcell hcell'
      go_wp2_with fail
      go_quiet (fail)
      all_goals
        have HB := Lib.hid hb
        go_wp2
        go_roundw
        case rel => exact ⟨k + 1, by omega, by go_num, bel_drewN HB.out _⟩
        case measure => simp [intOf]; omega
    · have hkn : k = n := by omega
      subst hkn
      go_wp2
      go_ret
      exact ⟨rfl, hb⟩

/-- Marked from k on. -/
def BMarked (k : Int) (d : List Int) : Prop := ∀ j, j < d.length → nth d j = IntKind.u8.wrap (k + j)

set_option maxHeartbeats 1000000 in
theorem markB_is (g n cap : Nat) (k : Int) (d : List Int) (w : World) (hn : n ≤ 4194304) (hk0 : 0 ≤ k) (hk1 : k ≤ 100000000) (hl : d.length = n) (H : BHeld w g d) :
    Calls Tryd.prog 22 #[.slice (some ⟨g, 0, none⟩) n cap, .int .i64 k] w fun e w' => e = .returned (.int .i64 (k + n)) ∧ ∃ d', d'.length = n ∧ BMarked k d' ∧ BHeld w' g d' ∧ w.grownBy w' (some g) := by
  have HH := Lib.hid H
  replace hl := Lib.hid hl
  clear H
  go_enter Tryd.func22, Tryd.ntmps22
  go_wp2_with fail
  go_loopw [1, 5] (fun kv iv wr => ∃ (i : Nat) (k' : Int) (d' : List Int), i ≤ n ∧ k + i = k' ∧ iv = .int .i64 i ∧ kv = .int .i64 k' ∧ d'.length = n ∧ (∀ j, j < i → nth d' j = IntKind.u8.wrap (k + j)) ∧ BHeld wr g d' ∧ w.grownBy wr (some g)) (fun _ i _ => n - (intOf i).toNat)
  case atStart => exact ⟨0, k, d, Nat.zero_le _, by omega, rfl, rfl, hl.out, by omega, HH.out, grown_refl _ _⟩
  case round =>
    obtain ⟨i, k', d', hi, hk', rfl, rfl, hl', hm, hh, hg⟩ := hrel
    have hb : k' ≤ 200000000 := by omega
    have hb0 : 0 ≤ k' := by omega
    by_cases hlt : i < n
    · have hlt' : (i : Int) < (n : Int) := by omega
      have c0 := hh.at0 i (by omega)
      have fr := hh.fr
      have HP := Lib.hid (hh.put i (IntKind.u8.wrap k'))
      have HG := Lib.hid (grown_set hg i (.int .u8 (IntKind.u8.wrap k')))
      replace hl' := Lib.hid hl'
      replace hm := Lib.hid hm
      replace hk' := Lib.hid hk'
      clear hg hh
      go_wp2
      go_roundw
      case rel =>
        have e := hk'.out
        refine ⟨i + 1, k' + 1, d'.set i (IntKind.u8.wrap k'), by omega, by omega, by go_num, rfl, by simpa using hl'.out, fun j hj => ?_, HP.out, HG.out⟩
        by_cases e' : j = i
        · subst e'
          have : j < d'.length := by rw [hl'.out]; exact hlt
          rw [e]
          simp [nth, this]
        · have := hm.out j (by omega)
          rw [← this]
          simp [nth, show ¬ i = j by omega]
      case measure => simp [intOf]; omega
    · obtain rfl : i = n := by omega
      replace hl' := Lib.hid hl'
      replace hm := Lib.hid hm
      replace hk' := Lib.hid hk'
      go_wp2
      go_ret
      exact ⟨by rw [hk'.out]; rfl, d', hl'.out, fun j hj => hm.out j (by rw [← hl'.out]; exact hj), hh, hg⟩
end Go.Proofs.YtgjbebfcbpfngaaDoor
