/- The marks of opens and of shelves: what is written, what is found again, and what stays: contracts of each of them. -/
import Derived.Test.YtghdnokjgmmgiaaGreatReg3
import Derived.Test.YtghdnokjgmmgiaaGreatCopiesReg
namespace Go.Proofs.YtghdnokjgmmgiaaGreat
open Go.RowKit

/-- Only blocks from lo up to hi may have been written. -/
structure Band (lo hi : Nat) (w w' : World) : Prop where
  os : w'.os = w.os
  tape : w'.tape = w.tape
  output : w'.output = w.output
  size : w.heap.size ≤ w'.heap.size
  block : ∀ i, i < w.heap.size → (i < lo ∨ hi ≤ i) → w'.heap[i]? = w.heap[i]?
theorem Band.refl (lo hi : Nat) (w : World) : Band lo hi w w := ⟨rfl, rfl, rfl, Nat.le_refl _, fun _ _ _ => rfl⟩
theorem Band.trans {lo hi : Nat} {a b c : World} (h : Band lo hi a b) (k : Band lo hi b c) : Band lo hi a c :=
  ⟨k.os.trans h.os, k.tape.trans h.tape, k.output.trans h.output, Nat.le_trans h.size k.size, fun i hi' hb => (k.block i (Nat.lt_of_lt_of_le hi' h.size) hb).trans (h.block i hi' hb)⟩
theorem Band.of_below {lo hi : Nat} {a b : World} (h : Below a.heap.size a b) : Band lo hi a b := ⟨h.os, h.tape, h.output, h.size, fun i hi' _ => h.block i hi'⟩
theorem Band.of_grown {lo hi g : Nat} {a b : World} (h : a.grownBy b (some g)) (h1 : lo ≤ g) (h2 : g < hi) : Band lo hi a b :=
  ⟨h.os, h.tape, h.output, h.size, fun i hi' hb => h.block i hi' (by intro e; injection e with e; omega)⟩
theorem Band.below {lo hi : Nat} {w a b : World} (h : Band lo hi a b) (hb : Below w.heap.size w a) (hl : w.heap.size ≤ lo) : Below w.heap.size w b :=
  ⟨h.os.trans hb.os, h.tape.trans hb.tape, h.output.trans hb.output, Nat.le_trans hb.size h.size, fun i hi' => (h.block i (Nat.lt_of_lt_of_le hi' hb.size) (.inl (by omega))).trans (hb.block i hi')⟩
theorem Band.cell {lo hi : Nat} {a b : World} (h : Band lo hi a b) {g : Nat} (hg : g < a.heap.size) (hb : g < lo ∨ hi ≤ g) (o : Nat) : b.cell? ⟨g, o, none⟩ = a.cell? ⟨g, o, none⟩ := World.cell?_of_block (h.block g hg hb)
theorem Band.frozen {lo hi : Nat} {a b : World} (h : Band lo hi a b) {g : Nat} (hg : g < a.heap.size) (hb : g < lo ∨ hi ≤ g) (o : Nat) : b.frozen? ⟨g, o, none⟩ = a.frozen? ⟨g, o, none⟩ := World.frozen?_of_block (h.block g hg hb)
theorem Box.band {lo hi : Nat} {a b : World} {g : Nat} {t : TypeId} {cs : Array Value} (hx : Box a g t cs) (h : Band lo hi a b) (hb : g < lo ∨ hi ≤ g) : Box b g t cs := (h.block g hx.lt hb).trans hx
theorem Held.band {lo hi : Nat} {a b : World} {g : Nat} {d : List (Int × Int)} (hx : Held a g d) (h : Band lo hi a b) (hb : g < lo ∨ hi ≤ g) : Held b g d :=
  ⟨Nat.lt_of_lt_of_le hx.lt h.size, fun o => (h.frozen hx.lt hb o).trans (hx.fr o), fun i hi' => (h.cell hx.lt hb _).trans (hx.at0 i hi'), fun i hi' => (h.cell hx.lt hb _).trans (hx.at1 i hi')⟩
theorem HeldQ.band {lo hi : Nat} {a b : World} {g : Nat} {d : List Opn} (hx : HeldQ a g d) (h : Band lo hi a b) (hb : g < lo ∨ hi ≤ g) : HeldQ b g d :=
  hx.keep (Nat.lt_of_lt_of_le hx.lt h.size) (fun o => h.frozen hx.lt hb o) (fun o => h.cell hx.lt hb o)

/-- A list of opens in a block of its own from lo to hi, or nil. -/
def ResQ (wr : World) (lo hi : Nat) (v : Value) (D : List Opn) : Prop :=
  (v = .slice none 0 0 ∧ D = []) ∨ ∃ g cap, lo ≤ g ∧ g < hi ∧ v = .slice (some ⟨g, 0, none⟩) D.length cap ∧ D.length ≤ cap ∧ cap ≤ maxLen ∧ HeldQ wr g D
theorem ResO.resQ {wr : World} {lo : Nat} {v : Value} {D : List Opn} (h : ResO wr lo v D) : ResQ wr lo wr.heap.size v D := by
  rcases h with h | ⟨g, cap, h1, h2, h3, h4, h5⟩
  · exact .inl h
  · exact .inr ⟨g, cap, h1, h5.lt, h2, h3, h4, h5⟩
theorem ResQ.resO {wr : World} {lo hi : Nat} {v : Value} {D : List Opn} (h : ResQ wr lo hi v D) : ResO wr lo v D := by
  rcases h with h | ⟨g, cap, h1, _, h2, h3, h4, h5⟩
  · exact .inl h
  · exact .inr ⟨g, cap, h1, h2, h3, h4, h5⟩
theorem ResQ.later {wr w' : World} {lo hi : Nat} {v : Value} {D : List Opn} (h : ResQ wr lo hi v D) (hb : Below wr.heap.size wr w') : ResQ w' lo hi v D := by
  rcases h with h | ⟨g, cap, h1, h2, h3, h4, h5, h6⟩
  · exact .inl h
  · exact .inr ⟨g, cap, h1, h2, h3, h4, h5, h6.later hb⟩
theorem ResP.band {wr w' : World} {lo hi l h' : Nat} {u : Value} {D : List (Int × Int)} (h : ResP wr l h' u D) (hb : Band lo hi wr w') (hd : h' ≤ lo ∨ hi ≤ l) : ResP w' l h' u D := by
  rcases h with h | ⟨g, cap, h1, h2, h3, h4, h5, h6⟩
  · exact .inl h
  · exact .inr ⟨g, cap, h1, h2, h3, h4, h5, h6.band hb (by omega)⟩
theorem ResQ.band {wr w' : World} {lo hi l h' : Nat} {u : Value} {D : List Opn} (h : ResQ wr l h' u D) (hb : Band lo hi wr w') (hd : h' ≤ lo ∨ hi ≤ l) : ResQ w' l h' u D := by
  rcases h with h | ⟨g, cap, h1, h2, h3, h4, h5, h6⟩
  · exact .inl h
  · exact .inr ⟨g, cap, h1, h2, h3, h4, h5, h6.band hb (by omega)⟩

/-- Marked from k on. -/
def MarkedQ (k : Int) (d : List Opn) : Prop := ∀ j, j < d.length → oth d j = (k + 4 * j, k + 4 * j + 1, k + 4 * j + 2, k + 4 * j + 3)

set_option maxHeartbeats 2000000 in
theorem markOpens_is (g n cap : Nat) (k : Int) (d : List Opn) (w : World) (hn : n ≤ 4194304) (hk0 : 0 ≤ k) (hk1 : k ≤ 100000000) (hl : d.length = n) (H : HeldQ w g d) :
    Calls Tryz.prog 61 #[.slice (some ⟨g, 0, none⟩) n cap, .int .i64 k] w fun e w' => e = .returned (.int .i64 (k + 4 * n)) ∧ ∃ d', d'.length = n ∧ MarkedQ k d' ∧ HeldQ w' g d' ∧ w.grownBy w' (some g) := by
  have HH := Lib.hid H
  replace hl := Lib.hid hl
  clear H
  go_enter Tryz.func61, Tryz.ntmps61
  go_wp2_with fail
  go_loopw [1, 5] (fun kv iv wr => ∃ (i : Nat) (k' : Int) (d' : List Opn), i ≤ n ∧ k + 4 * i = k' ∧ iv = .int .i64 i ∧ kv = .int .i64 k' ∧ d'.length = n ∧ (∀ j, j < i → oth d' j = (k + 4 * j, k + 4 * j + 1, k + 4 * j + 2, k + 4 * j + 3)) ∧ HeldQ wr g d' ∧ w.grownBy wr (some g)) (fun _ i _ => n - (intOf i).toNat)
  case atStart => exact ⟨0, k, d, Nat.zero_le _, by omega, rfl, rfl, hl.out, by omega, HH.out, grown_refl _ _⟩
  case round =>
    obtain ⟨i, k', d', hi, hk', rfl, rfl, hl', hm, hh, hg⟩ := hrel
    have hb : k' ≤ 200000000 := by omega
    have hb0 : 0 ≤ k' := by omega
    by_cases hlt : i < n
    · have hlt' : (i : Int) < (n : Int) := by omega
      obtain ⟨c0, c1, c2, c3⟩ := hh.cs i (by omega)
      have fr := hh.fr
      have HP := Lib.hid (hh.put i (k', k' + 1, k' + 1 + 1, k' + 1 + 1 + 1))
      have HG := Lib.hid (grown_set (grown_set (grown_set (grown_set hg (i * 4) (.int .i64 k')) (i * 4 + 1) (.int .i64 (k' + 1))) (i * 4 + 2) (.int .i64 (k' + 1 + 1))) (i * 4 + 3) (.int .i64 (k' + 1 + 1 + 1)))
      replace hl' := Lib.hid hl'
      replace hm := Lib.hid hm
      replace hk' := Lib.hid hk'
      clear hg hh
      go_wp2
      go_roundw
      case rel =>
        have e := hk'.out
        refine ⟨i + 1, k' + 1 + 1 + 1 + 1, d'.set i (k', k' + 1, k' + 1 + 1, k' + 1 + 1 + 1), by omega, by omega, by go_num, rfl, by simpa using hl'.out, fun j hj => ?_, HP.out, HG.out⟩
        by_cases e' : j = i
        · subst e'
          have hj' : j < d'.length := by rw [hl'.out]; exact hlt
          have ex : oth (d'.set j (k', k' + 1, k' + 1 + 1, k' + 1 + 1 + 1)) j = (k', k' + 1, k' + 1 + 1, k' + 1 + 1 + 1) := by simp [oth, hj']
          rw [ex]
          simp only [Prod.mk.injEq]
          omega
        · have := hm.out j (by omega)
          rw [← this]
          simp [oth, show ¬ i = j by omega]
      case measure => simp [intOf]; omega
    · obtain rfl : i = n := by omega
      replace hl' := Lib.hid hl'
      replace hm := Lib.hid hm
      replace hk' := Lib.hid hk'
      go_wp2
      go_ret
      exact ⟨by rw [hk'.out]; rfl, d', hl'.out, fun j hj => hm.out j (by rw [← hl'.out]; exact hj), hh, hg⟩

set_option maxHeartbeats 2000000 in
theorem heldOpens_is (g n cap : Nat) (k : Int) (d : List Opn) (w : World) (hn : n ≤ 4194304) (hk0 : 0 ≤ k) (hk1 : k ≤ 100000000) (hl : d.length = n) (hM : MarkedQ k d) (H : HeldQ w g d) :
    Calls Tryz.prog 63 #[.slice (some ⟨g, 0, none⟩) n cap, .int .i64 k] w fun e w' => e = .returned (.int .i64 (k + 4 * n)) ∧ w = w' := by
  have HH := Lib.hid H
  have HMK := Lib.hid hM
  replace hl := Lib.hid hl
  clear H hM
  go_enter Tryz.func63, Tryz.ntmps63
  go_wp2_with fail
  go_loopw [1, 5] (fun kv iv wr => ∃ (i : Nat) (k' : Int), i ≤ n ∧ k + 4 * i = k' ∧ iv = .int .i64 i ∧ kv = .int .i64 k' ∧ w = wr) (fun _ i _ => n - (intOf i).toNat)
  case atStart => exact ⟨0, k, Nat.zero_le _, by omega, rfl, rfl, rfl⟩
  case round =>
    obtain ⟨i, k', hi, hk', rfl, rfl, rfl⟩ := hrel
    have hb : k' ≤ 200000000 := by omega
    have hb0 : 0 ≤ k' := by omega
    by_cases hlt : i < n
    · have hlt' : (i : Int) < (n : Int) := by omega
      obtain ⟨c0, c1, c2, c3⟩ := HH.out.cs i (by rw [hl.out]; exact hlt)
      rw [HMK.out i (by rw [hl.out]; exact hlt)] at c0 c1 c2 c3
      simp only [hk'] at c0 c1 c2 c3
      have e2 : k' + 2 = k' + 1 + 1 := by omega
      have e3 : k' + 3 = k' + 1 + 1 + 1 := by omega
      rw [e2] at c2
      rw [e3] at c3
      replace hk' := Lib.hid hk'
      clear e2 e3
      go_wp2
      go_roundw
      case rel => exact ⟨i + 1, k' + 1 + 1 + 1 + 1, by omega, by have := hk'.out; omega, by go_num, rfl, trivial⟩
      case measure => simp [intOf]; omega
    · obtain rfl : i = n := by omega
      replace hk' := Lib.hid hk'
      go_wp2
      go_ret
      exact ⟨by rw [hk'.out]; rfl, rfl⟩
theorem markOpens_nil (k : Int) (w : World) : Calls Tryz.prog 61 #[.slice none 0 0, .int .i64 k] w fun e w' => e = .returned (.int .i64 k) ∧ w = w' := by
  go_enter Tryz.func61, Tryz.ntmps61
  go_wp2_with fail
  go_loopw [1, 5] (fun kv iv wr => iv = .int .i64 0 ∧ kv = .int .i64 k ∧ w = wr) (fun _ _ _ => 0)
  case atStart => exact ⟨rfl, rfl, rfl⟩
  case round =>
    obtain ⟨rfl, rfl, rfl⟩ := hrel
    go_wp2
    go_ret
    exact ⟨rfl, rfl⟩
theorem heldOpens_nil (k : Int) (w : World) : Calls Tryz.prog 63 #[.slice none 0 0, .int .i64 k] w fun e w' => e = .returned (.int .i64 k) ∧ w = w' := by
  go_enter Tryz.func63, Tryz.ntmps63
  go_wp2_with fail
  go_loopw [1, 5] (fun kv iv wr => iv = .int .i64 0 ∧ kv = .int .i64 k ∧ w = wr) (fun _ _ _ => 0)
  case atStart => exact ⟨rfl, rfl, rfl⟩
  case round =>
    obtain ⟨rfl, rfl, rfl⟩ := hrel
    go_wp2
    go_ret
    exact ⟨rfl, rfl⟩

theorem markP_is {wr : World} {lo hi : Nat} {u : Value} {D : List (Int × Int)} (k : Int) (h : ResP wr lo hi u D) (hn : D.length ≤ 1048577) (hk0 : 0 ≤ k) (hk1 : k ≤ 50000000) :
    Calls Tryz.prog 25 #[u, .int .i64 k] wr fun e w' => e = .returned (.int .i64 (k + 2 * D.length)) ∧ ∃ D', D'.length = D.length ∧ Marked k D' ∧ ResP w' lo hi u D' ∧ Band lo hi wr w' := by
  rcases h with ⟨rfl, rfl⟩ | ⟨g, cap, h1, h2, rfl, h4, h5, h6⟩
  · refine (mark_nil k wr).mono ?_
    rintro e w' ⟨rfl, rfl⟩
    exact ⟨by simp, [], rfl, fun j hj => absurd hj (by simp), .inl ⟨rfl, rfl⟩, Band.refl _ _ _⟩
  · refine (mark_is g D.length cap k D wr (by omega) hk0 (by omega) rfl h6).mono ?_
    rintro e w' ⟨rfl, D', hd1, hd2, hd3, hg⟩
    exact ⟨rfl, D', hd1, hd2, .inr ⟨g, cap, h1, h2, by rw [hd1], by omega, h5, hd3⟩, Band.of_grown hg h1 h2⟩
theorem markQ_is {wr : World} {lo hi : Nat} {u : Value} {D : List Opn} (k : Int) (h : ResQ wr lo hi u D) (hn : D.length ≤ 1048577) (hk0 : 0 ≤ k) (hk1 : k ≤ 50000000) :
    Calls Tryz.prog 61 #[u, .int .i64 k] wr fun e w' => e = .returned (.int .i64 (k + 4 * D.length)) ∧ ∃ D', D'.length = D.length ∧ MarkedQ k D' ∧ ResQ w' lo hi u D' ∧ Band lo hi wr w' := by
  rcases h with ⟨rfl, rfl⟩ | ⟨g, cap, h1, h2, rfl, h4, h5, h6⟩
  · refine (markOpens_nil k wr).mono ?_
    rintro e w' ⟨rfl, rfl⟩
    exact ⟨by simp, [], rfl, fun j hj => absurd hj (by simp), .inl ⟨rfl, rfl⟩, Band.refl _ _ _⟩
  · refine (markOpens_is g D.length cap k D wr (by omega) hk0 (by omega) rfl h6).mono ?_
    rintro e w' ⟨rfl, D', hd1, hd2, hd3, hg⟩
    exact ⟨rfl, D', hd1, hd2, .inr ⟨g, cap, h1, h2, by rw [hd1], by omega, h5, hd3⟩, Band.of_grown hg h1 h2⟩
theorem heldP_is {wr : World} {lo hi : Nat} {u : Value} {D : List (Int × Int)} (k : Int) (h : ResP wr lo hi u D) (hM : Marked k D) (hn : D.length ≤ 1048577) (hk0 : 0 ≤ k) (hk1 : k ≤ 50000000) :
    Calls Tryz.prog 62 #[u, .int .i64 k] wr fun e w' => e = .returned (.int .i64 (k + 2 * D.length)) ∧ wr = w' := by
  rcases h with ⟨rfl, rfl⟩ | ⟨g, cap, h1, h2, rfl, h4, h5, h6⟩
  · refine (held_nil k wr).mono ?_
    rintro e w' ⟨rfl, rfl⟩
    exact ⟨by simp, rfl⟩
  · exact held_is g D.length cap k D wr (by omega) hk0 (by omega) rfl hM h6
theorem heldQ_is {wr : World} {lo hi : Nat} {u : Value} {D : List Opn} (k : Int) (h : ResQ wr lo hi u D) (hM : MarkedQ k D) (hn : D.length ≤ 1048577) (hk0 : 0 ≤ k) (hk1 : k ≤ 50000000) :
    Calls Tryz.prog 63 #[u, .int .i64 k] wr fun e w' => e = .returned (.int .i64 (k + 4 * D.length)) ∧ wr = w' := by
  rcases h with ⟨rfl, rfl⟩ | ⟨g, cap, h1, h2, rfl, h4, h5, h6⟩
  · refine (heldOpens_nil k wr).mono ?_
    rintro e w' ⟨rfl, rfl⟩
    exact ⟨by simp, rfl⟩
  · exact heldOpens_is g D.length cap k D wr (by omega) hk0 (by omega) rfl hM h6

set_option maxHeartbeats 1000000 in
theorem markReg_is {wr : World} {lo B hi : Nat} {A : Option Addr} {n c : Nat} {A' : Option Addr} {n' c' : Nat} {D : List (Int × Int)} {D2 : List Opn} (rt rq rv : Int) (k : Int) (h : ResP wr lo B (.slice A n c) D) (h2 : ResQ wr B hi (.slice A' n' c') D2) (hlo : lo ≤ B) (hhi : B ≤ hi) (hS : hi ≤ wr.heap.size) (hn : D.length ≤ 1048577) (hn2 : D2.length ≤ 1048577) (hk0 : 0 ≤ k) (hk1 : k ≤ 10000000) :
    Calls Tryz.prog 24 #[.agg #[.int .i64 rt, .int .i64 rq, .int .i64 rv, .slice A n c, .slice A' n' c'], .int .i64 k] wr fun e w' => e = .returned (.int .i64 (k + 2 * D.length + 4 * D2.length)) ∧ ∃ D' D2', D'.length = D.length ∧ D2'.length = D2.length ∧ Marked k D' ∧ MarkedQ (k + 2 * D.length) D2' ∧ ResP w' lo B (.slice A n c) D' ∧ ResQ w' B hi (.slice A' n' c') D2' ∧ Band lo hi wr w' := by
  have hb0 := bel_alloc wr (.cells #[.int .i64 rt, .int .i64 rq, .int .i64 rv, .slice A n c, .slice A' n' c'] 32)
  have X := Box.new wr 32 #[.int .i64 rt, .int .i64 rq, .int .i64 rv, .slice A n c, .slice A' n' c']
  have H := Lib.hid (h.later hb0)
  have H2 := Lib.hid (h2.later hb0)
  have F0 := Band.of_below (lo := lo) (hi := hi) hb0
  clear h h2
  go_enter Tryz.func24, Tryz.ntmps24
  go_wp2_with fail
  generalize (wr.alloc _ : World) = w0 at hb0 X H H2 F0 ⊢
  refine (markP_is k H.out hn hk0 (by omega)).mono ?_
  rintro e w1 ⟨rfl, D', hd1, hd2, hR, hb1⟩
  have X1 := X.band hb1 (.inr (by omega))
  have F1 : Band lo hi w0 w1 := ⟨hb1.os, hb1.tape, hb1.output, hb1.size, fun i hi' hb => hb1.block i hi' (by omega)⟩
  have H21 := H2.out.band hb1 (.inr (Nat.le_refl _))
  have F01 := F0.trans F1
  have c4 : w1.cell? ⟨wr.heap.size, 4, none⟩ = some (.slice A' n' c') := X1.cell 4
  have hkk : 0 ≤ k + 2 * (D.length : Int) := by omega
  replace hd1 := Lib.hid hd1
  replace hd2 := Lib.hid hd2
  replace hR := Lib.hid hR
  clear X hb0 H H2 F0 hb1 F1
  go_wp2_with fail
  refine (markQ_is (k + 2 * D.length) H21 hn2 hkk (by omega)).mono ?_
  rintro e w2 ⟨rfl, D2', he1, he2, hQ, hb2⟩
  have F2 : Band lo hi w1 w2 := ⟨hb2.os, hb2.tape, hb2.output, hb2.size, fun i hi' hb => hb2.block i hi' (by omega)⟩
  have R2 := hR.out.band hb2 (.inl (Nat.le_refl _))
  replace he1 := Lib.hid he1
  replace he2 := Lib.hid he2
  replace hQ := Lib.hid hQ
  replace R2 := Lib.hid R2
  clear hb2 H21 c4 X1
  go_wp2
  go_ret
  exact ⟨rfl, D', D2', hd1.out, he1.out, hd2.out, he2.out, R2.out, hQ.out, F01.trans F2⟩

set_option maxHeartbeats 1000000 in
theorem heldReg_is {wr : World} {lo B hi : Nat} {A : Option Addr} {n c : Nat} {A' : Option Addr} {n' c' : Nat} {D : List (Int × Int)} {D2 : List Opn} (rt rq rv : Int) (k : Int) (h : ResP wr lo B (.slice A n c) D) (h2 : ResQ wr B hi (.slice A' n' c') D2) (hM : Marked k D) (hM2 : MarkedQ (k + 2 * D.length) D2) (hn : D.length ≤ 1048577) (hn2 : D2.length ≤ 1048577) (hk0 : 0 ≤ k) (hk1 : k ≤ 10000000) :
    Calls Tryz.prog 26 #[.agg #[.int .i64 rt, .int .i64 rq, .int .i64 rv, .slice A n c, .slice A' n' c'], .int .i64 k] wr fun e w' => e = .returned (.int .i64 (k + 2 * D.length + 4 * D2.length)) ∧ Below wr.heap.size wr w' := by
  have hb0 := bel_alloc wr (.cells #[.int .i64 rt, .int .i64 rq, .int .i64 rv, .slice A n c, .slice A' n' c'] 32)
  have H := Lib.hid (h.later hb0)
  have H2 := Lib.hid (h2.later hb0)
  have HM := Lib.hid hM
  have HM2 := Lib.hid hM2
  have hkk : 0 ≤ k + 2 * (D.length : Int) := by omega
  have hk2 : ¬ (k + 2 * (D.length : Int) < 0) := by omega
  have hk3 : ¬ (k + 2 * (D.length : Int) + 4 * (D2.length : Int) < 0) := by omega
  clear h h2 hM hM2
  go_enter Tryz.func26, Tryz.ntmps26
  go_wp2_with (first
    | (go_at_call 62; refine (heldP_is k H.out HM.out hn hk0 (by omega)).mono ?_; rintro e w1 ⟨rfl, rfl⟩)
    | (go_at_call 63; refine (heldQ_is (k + 2 * D.length) H2.out HM2.out hn2 hkk (by omega)).mono ?_; rintro e w1 ⟨rfl, rfl⟩))
  go_ret
  exact ⟨rfl, hb0⟩

end Go.Proofs.YtghdnokjgmmgiaaGreat
