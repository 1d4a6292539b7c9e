/- The marks of opens and of shelves: what is written, what is found again, and what stays: contracts of each of them. -/
import Derived.Test.YtjdepjpjjgkmbaaGreatReg3
import Derived.Test.YtjdepjpjjgkmbaaGreatCopiesReg
namespace Go.Proofs.YtjdepjpjjgkmbaaGreat
open Go.RowKit

/-- Only blocks from lo up to hi may have been written. -/
structure Band (lo hi : Nat) (w w' : World) : Prop where
  os : w'.os = w.os
  tape : w'.tape = w.tape
  output : w'.output = w.output
  size : w.heap.size ≤ w'.heap.size
  block : ∀ i, i < w.heap.size → (i < lo ∨ hi ≤ i) → w'.heap[i]? = w.heap[i]?
theorem Band.refl (lo hi : Nat) (w : World) : Band lo hi w w := ⟨rfl, rfl, rfl, Nat.le_refl _, fun _ _ _ => rfl⟩
theorem Band.trans {lo hi : Nat} {a b c : World} (h : Band lo hi a b) (k : Band lo hi b c) : Band lo hi a c :=
  ⟨k.os.trans h.os, k.tape.trans h.tape, k.output.trans h.output, Nat.le_trans h.size k.size, fun i hi' hb => (k.block i (Nat.lt_of_lt_of_le hi' h.size) hb).trans (h.block i hi' hb)⟩
theorem Band.of_below {lo hi : Nat} {a b : World} (h : Below a.heap.size a b) : Band lo hi a b := ⟨h.os, h.tape, h.output, h.size, fun i hi' _ => h.block i hi'⟩
theorem Band.of_grown {lo hi g : Nat} {a b : World} (h : a.grownBy b (some g)) (h1 : lo ≤ g) (h2 : g < hi) : Band lo hi a b :=
  ⟨h.os, h.tape, h.output, h.size, fun i hi' hb => h.block i hi' (by intro e; injection e with e; omega)⟩
theorem Band.below {lo hi : Nat} {w a b : World} (h : Band lo hi a b) (hb : Below w.heap.size w a) (hl : w.heap.size ≤ lo) : Below w.heap.size w b :=
  ⟨h.os.trans hb.os, h.tape.trans hb.tape, h.output.trans hb.output, Nat.le_trans hb.size h.size, fun i hi' => (h.block i (Nat.lt_of_lt_of_le hi' hb.size) (.inl (by omega))).trans (hb.block i hi')⟩
theorem Band.cell {lo hi : Nat} {a b : World} (h : Band lo hi a b) {g : Nat} (hg : g < a.heap.size) (hb : g < lo ∨ hi ≤ g) (o : Nat) : b.cell? ⟨g, o, none⟩ = a.cell? ⟨g, o, none⟩ := World.cell?_of_block (h.block g hg hb)
theorem Band.frozen {lo hi : Nat} {a b : World} (h : Band lo hi a b) {g : Nat} (hg : g < a.heap.size) (hb : g < lo ∨ hi ≤ g) (o : Nat) : b.frozen? ⟨g, o, none⟩ = a.frozen? ⟨g, o, none⟩ := World.frozen?_of_block (h.block g hg hb)
theorem Box.band {lo hi : Nat} {a b : World} {g : Nat} {t : TypeId} {cs : Array Value} (hx : Box a g t cs) (h : Band lo hi a b) (hb : g < lo ∨ hi ≤ g) : Box b g t cs := (h.block g hx.lt hb).trans hx
theorem Held.band {lo hi : Nat} {a b : World} {g : Nat} {d : List (Int × Int)} (hx : Held a g d) (h : Band lo hi a b) (hb : g < lo ∨ hi ≤ g) : Held b g d :=
  ⟨Nat.lt_of_lt_of_le hx.lt h.size, fun o => (h.frozen hx.lt hb o).trans (hx.fr o), fun i hi' => (h.cell hx.lt hb _).trans (hx.at0 i hi'), fun i hi' => (h.cell hx.lt hb _).trans (hx.at1 i hi')⟩
theorem HeldQ.band {lo hi : Nat} {a b : World} {g : Nat} {d : List Opn} (hx : HeldQ a g d) (h : Band lo hi a b) (hb : g < lo ∨ hi ≤ g) : HeldQ b g d :=
  hx.keep (Nat.lt_of_lt_of_le hx.lt h.size) (fun o => h.frozen hx.lt hb o) (fun o => h.cell hx.lt hb o)

/-- A list of opens in a block of its own from lo to hi, or nil. -/
def ResQ (wr : World) (lo hi : Nat) (v : Value) (D : List Opn) : Prop :=
  (v = .slice none 0 0 ∧ D = []) ∨ ∃ g cap, lo ≤ g ∧ g < hi ∧ v = .slice (some ⟨g, 0, none⟩) D.length cap ∧ D.length ≤ cap ∧ cap ≤ maxLen ∧ HeldQ wr g D
theorem ResO.resQ {wr : World} {lo : Nat} {v : Value} {D : List Opn} (h : ResO wr lo v D) : ResQ wr lo wr.heap.size v D := by
  rcases h with h | ⟨g, cap, h1, h2, h3, h4, h5⟩
  · exact .inl h
  · exact .inr ⟨g, cap, h1, h5.lt, h2, h3, h4, h5⟩
theorem ResQ.resO {wr : World} {lo hi : Nat} {v : Value} {D : List Opn} (h : ResQ wr lo hi v D) : ResO wr lo v D := by
  rcases h with h | ⟨g, cap, h1, _, h2, h3, h4, h5⟩
  · exact .inl h
  · exact .inr ⟨g, cap, h1, h2, h3, h4, h5⟩
theorem ResQ.later {wr w' : World} {lo hi : Nat} {v : Value} {D : List Opn} (h : ResQ wr lo hi v D) (hb : Below wr.heap.size wr w') : ResQ w' lo hi v D := by
  rcases h with h | ⟨g, cap, h1, h2, h3, h4, h5, h6⟩
  · exact .inl h
  · exact .inr ⟨g, cap, h1, h2, h3, h4, h5, h6.later hb⟩
theorem ResP.band {wr w' : World} {lo hi l h' : Nat} {u : Value} {D : List (Int × Int)} (h : ResP wr l h' u D) (hb : Band lo hi wr w') (hd : h' ≤ lo ∨ hi ≤ l) : ResP w' l h' u D := by
  rcases h with h | ⟨g, cap, h1, h2, h3, h4, h5, h6⟩
  · exact .inl h
  · exact .inr ⟨g, cap, h1, h2, h3, h4, h5, h6.band hb (by omega)⟩
theorem ResQ.band {wr w' : World} {lo hi l h' : Nat} {u : Value} {D : List Opn} (h : ResQ wr l h' u D) (hb : Band lo hi wr w') (hd : h' ≤ lo ∨ hi ≤ l) : ResQ w' l h' u D := by
  rcases h with h | ⟨g, cap, h1, h2, h3, h4, h5, h6⟩
  · exact .inl h
  · exact .inr ⟨g, cap, h1, h2, h3, h4, h5, h6.band hb (by omega)⟩

/-- Marked from k on. -/
def MarkedQ (k : Int) (d : List Opn) : Prop := ∀ j, j < d.length → oth d j = (k + 4 * j, k + 4 * j + 1, k + 4 * j + 2, k + 4 * j + 3)

set_option maxHeartbeats 2000000 in
theorem markOpens_is (g n cap : Nat) (k : Int) (d : List Opn) (w : World) (hn : n ≤ 4194304) (hk0 : 0 ≤ k) (hk1 : k ≤ 100000000) (hl : d.length = n) (H : HeldQ w g d) :
    Calls Tryz.prog 106 #[.slice (some ⟨g, 0, none⟩) n cap, .int .i64 k] w fun e w' => e = .returned (.int .i64 (k + 4 * n)) ∧ ∃ d', d'.length = n ∧ MarkedQ k d' ∧ HeldQ w' g d' ∧ w.grownBy w' (some g) := by
  have HH := Lib.hid H
  replace hl := Lib.hid hl
  clear H
  go_enter Tryz.func106, Tryz.ntmps106
  go_wp2_with fail
  go_loopw [1, 5] (fun kv iv wr => ∃ (i : Nat) (k' : Int) (d' : List Opn), i ≤ n ∧ k + 4 * i = k' ∧ iv = .int .i64 i ∧ kv = .int .i64 k' ∧ d'.length = n ∧ (∀ j, j < i → oth d' j = (k + 4 * j, k + 4 * j + 1, k + 4 * j + 2, k + 4 * j + 3)) ∧ HeldQ wr g d' ∧ w.grownBy wr (some g)) (fun _ i _ => n - (intOf i).toNat)
  case atStart => exact ⟨0, k, d, Nat.zero_le _, by omega, rfl, rfl, hl.out, by omega, HH.out, grown_refl _ _⟩
  case round =>
    obtain ⟨i, k', d', hi, hk', rfl, rfl, hl', hm, hh, hg⟩ := hrel
    have hb : k' ≤ 200000000 := by omega
    have hb0 : 0 ≤ k' := by omega
    by_cases hlt : i < n
    · have hlt' : (i : Int) < (n : Int) := by omega
      obtain ⟨c0, c1, c2, c3⟩ := hh.cs i (by omega)
      have fr := hh.fr
      have HP := Lib.hid (hh.put i (k', k' + 1, k' + 1 + 1, k' + 1 + 1 + 1))
      have HG := Lib.hid (grown_set (grown_set (grown_set (grown_set hg (i * 4) (.int .i64 k')) (i * 4 + 1) (.int .i64 (k' + 1))) (i * 4 + 2) (.int .i64 (k' + 1 + 1))) (i * 4 + 3) (.int .i64 (k' + 1 + 1 + 1)))
      replace hl' := Lib.hid hl'
      replace hm := Lib.hid hm
      replace hk' := Lib.hid hk'
      clear hg hh
      go_wp2
      go_roundw
      case rel =>
        have e := hk'.out
        refine ⟨i + 1, k' + 1 + 1 + 1 + 1, d'.set i (k', k' + 1, k' + 1 + 1, k' + 1 + 1 + 1), by omega, by omega, by go_num, rfl, by simpa using hl'.out, fun j hj => ?_, HP.out, HG.out⟩
        by_cases e' : j = i
        · subst e'
          have hj' : j < d'.length := by rw [hl'.out]; exact hlt
          have ex : oth (d'.set j (k', k' + 1, k' + 1 + 1, k' + 1 + 1 + 1)) j = (k', k' + 1, k' + 1 + 1, k' + 1 + 1 + 1) := by simp [oth, hj']
          rw [ex]
          simp only [Prod.mk.injEq]
          omega
        · have := hm.out j (by omega)
          rw [← this]
          simp [oth, show ¬ i = j by omega]
      case measure => simp [intOf]; omega
    · obtain rfl : i = n := by omega
      replace hl' := Lib.hid hl'
      replace hm := Lib.hid hm
      replace hk' := Lib.hid hk'
      go_wp2
      go_ret
      exact ⟨by rw [hk'.out]; rfl, d', hl'.out, fun j hj => hm.out j (by rw [← hl'.out]; exact hj), hh, hg⟩

set_option maxHeartbeats 2000000 in
theorem heldOpens_is (g n cap : Nat) (k : Int) (d : List Opn) (w : World) (hn : n ≤ 4194304) (hk0 : 0 ≤ k) (hk1 : k ≤ 100000000) (hl : d.length = n) (hM : MarkedQ k d) (H : HeldQ w g d) :
    Calls Tryz.prog 108 #[.slice (some ⟨g, 0, none⟩) n cap, .int .i64 k] w fun e w' => e = .returned (.int .i64 (k + 4 * n)) ∧ w = w' := by
  have HH := Lib.hid H
  have HMK := Lib.hid hM
  replace hl := Lib.hid hl
  clear H hM
  go_enter Tryz.func108, Tryz.ntmps108
  go_wp2_with fail
  go_loopw [1, 5] (fun kv iv wr => ∃ (i : Nat) (k' : Int), i ≤ n ∧ k + 4 * i = k' ∧ iv = .int .i64 i ∧ kv = .int .i64 k' ∧ w = wr) (fun _ i _ => n - (intOf i).toNat)
  case atStart => exact ⟨0, k, Nat.zero_le _, by omega, rfl, rfl, rfl⟩
  case round =>
    obtain ⟨i, k', hi, hk', rfl, rfl, rfl⟩ := hrel
    have hb : k' ≤ 200000000 := by omega
    have hb0 : 0 ≤ k' := by omega
    by_cases hlt : i < n
    · have hlt' : (i : Int) < (n : Int) := by omega
      obtain ⟨c0, c1, c2, c3⟩ := HH.out.cs i (by rw [hl.out]; exact hlt)
      rw [HMK.out i (by rw [hl.out]; exact hlt)] at c0 c1 c2 c3
      simp only [hk'] at c0 c1 c2 c3
      have e2 : k' + 2 = k' + 1 + 1 := by omega
      have e3 : k' + 3 = k' + 1 + 1 + 1 := by omega
      rw [e2] at c2
      rw [e3] at c3
      replace hk' := Lib.hid hk'
      clear e2 e3
      go_wp2
      go_roundw
      case rel => exact ⟨i + 1, k' + 1 + 1 + 1 + 1, by omega, by have := hk'.out; omega, by go_num, rfl, trivial⟩
      case measure => simp [intOf]; omega
    · obtain rfl : i = n := by omega
      replace hk' := Lib.hid hk'
      go_wp2
      go_ret
      exact ⟨by rw [hk'.out]; rfl, rfl⟩
theorem markOpens_nil (k : Int) (w : World) : Calls Tryz.prog 106 #[.slice none 0 0, .int .i64 k] w fun e w' => e = .returned (.int .i64 k) ∧ w = w' := by
  go_enter Tryz.func106, Tryz.ntmps106
  go_wp2_with fail
  go_loopw [1, 5] (fun kv iv wr => iv = .int .i64 0 ∧ kv = .int .i64 k ∧ w = wr) (fun _ _ _ => 0)
  case atStart => exact ⟨rfl, rfl, rfl⟩
  case round =>
    obtain ⟨rfl, rfl, rfl⟩ := hrel
    go_wp2
    go_ret
    exact ⟨rfl, rfl⟩
theorem heldOpens_nil (k : Int) (w : World) : Calls Tryz.prog 108 #[.slice none 0 0, .int .i64 k] w fun e w' => e = .returned (.int .i64 k) ∧ w = w' := by
  go_enter Tryz.func108, Tryz.ntmps108
  go_wp2_with fail
  go_loopw [1, 5] (fun kv iv wr => iv = .int .i64 0 ∧ kv = .int .i64 k ∧ w = wr) (fun _ _ _ => 0)
  case atStart => exact ⟨rfl, rfl, rfl⟩
  case round =>
    obtain ⟨rfl, rfl, rfl⟩ := hrel
    go_wp2
    go_ret
    exact ⟨rfl, rfl⟩

theorem markP_is {wr : World} {lo hi : Nat} {u : Value} {D : List (Int × Int)} (k : Int) (h : ResP wr lo hi u D) (hn : D.length ≤ 1048577) (hk0 : 0 ≤ k) (hk1 : k ≤ 50000000) :
    Calls Tryz.prog 36 #[u, .int .i64 k] wr fun e w' => e = .returned (.int .i64 (k + 2 * D.length)) ∧ ∃ D', D'.length = D.length ∧ Marked k D' ∧ ResP w' lo hi u D' ∧ Band lo hi wr w' := by
  rcases h with ⟨rfl, rfl⟩ | ⟨g, cap, h1, h2, rfl, h4, h5, h6⟩
  · refine (mark_nil k wr).mono ?_
    rintro e w' ⟨rfl, rfl⟩
    exact ⟨by simp, [], rfl, fun j hj => absurd hj (by simp), .inl ⟨rfl, rfl⟩, Band.refl _ _ _⟩
  · refine (mark_is g D.length cap k D wr (by omega) hk0 (by omega) rfl h6).mono ?_
    rintro e w' ⟨rfl, D', hd1, hd2, hd3, hg⟩
    exact ⟨rfl, D', hd1, hd2, .inr ⟨g, cap, h1, h2, by rw [hd1], by omega, h5, hd3⟩, Band.of_grown hg h1 h2⟩
theorem markQ_is {wr : World} {lo hi : Nat} {u : Value} {D : List Opn} (k : Int) (h : ResQ wr lo hi u D) (hn : D.length ≤ 1048577) (hk0 : 0 ≤ k) (hk1 : k ≤ 50000000) :
    Calls Tryz.prog 106 #[u, .int .i64 k] wr fun e w' => e = .returned (.int .i64 (k + 4 * D.length)) ∧ ∃ D', D'.length = D.length ∧ MarkedQ k D' ∧ ResQ w' lo hi u D' ∧ Band lo hi wr w' := by
  rcases h with ⟨rfl, rfl⟩ | ⟨g, cap, h1, h2, rfl, h4, h5, h6⟩
  · refine (markOpens_nil k wr).mono ?_
    rintro e w' ⟨rfl, rfl⟩
    exact ⟨by simp, [], rfl, fun j hj => absurd hj (by simp), .inl ⟨rfl, rfl⟩, Band.refl _ _ _⟩
  · refine (markOpens_is g D.length cap k D wr (by omega) hk0 (by omega) rfl h6).mono ?_
    rintro e w' ⟨rfl, D', hd1, hd2, hd3, hg⟩
    exact ⟨rfl, D', hd1, hd2, .inr ⟨g, cap, h1, h2, by rw [hd1], by omega, h5, hd3⟩, Band.of_grown hg h1 h2⟩
theorem heldP_is {wr : World} {lo hi : Nat} {u : Value} {D : List (Int × Int)} (k : Int) (h : ResP wr lo hi u D) (hM : Marked k D) (hn : D.length ≤ 1048577) (hk0 : 0 ≤ k) (hk1 : k ≤ 50000000) :
    Calls Tryz.prog 107 #[u, .int .i64 k] wr fun e w' => e = .returned (.int .i64 (k + 2 * D.length)) ∧ wr = w' := by
  rcases h with ⟨rfl, rfl⟩ | ⟨g, cap, h1, h2, rfl, h4, h5, h6⟩
  · refine (held_nil k wr).mono ?_
    rintro e w' ⟨rfl, rfl⟩
    exact ⟨by simp, rfl⟩
  · exact held_is g D.length cap k D wr (by omega) hk0 (by omega) rfl hM h6
theorem heldQ_is {wr : World} {lo hi : Nat} {u : Value} {D : List Opn} (k : Int) (h : ResQ wr lo hi u D) (hM : MarkedQ k D) (hn : D.length ≤ 1048577) (hk0 : 0 ≤ k) (hk1 : k ≤ 50000000) :
    Calls Tryz.prog 108 #[u, .int .i64 k] wr fun e w' => e = .returned (.int .i64 (k + 4 * D.length)) ∧ wr = w' := by
  rcases h with ⟨rfl, rfl⟩ | ⟨g, cap, h1, h2, rfl, h4, h5, h6⟩
  · refine (heldOpens_nil k wr).mono ?_
    rintro e w' ⟨rfl, rfl⟩
    exact ⟨by simp, rfl⟩
  · exact heldOpens_is g D.length cap k D wr (by omega) hk0 (by omega) rfl hM h6

set_option maxHeartbeats 1000000 in
theorem markReg_is {wr : World} {lo B hi : Nat} {A : Option Addr} {n c : Nat} {A' : Option Addr} {n' c' : Nat} {D : List (Int × Int)} {D2 : List Opn} (rt rq rv : Int) (k : Int) (h : ResP wr lo B (.slice A n c) D) (h2 : ResQ wr B hi (.slice A' n' c') D2) (hlo : lo ≤ B) (hhi : B ≤ hi) (hS : hi ≤ wr.heap.size) (hn : D.length ≤ 1048577) (hn2 : D2.length ≤ 1048577) (hk0 : 0 ≤ k) (hk1 : k ≤ 10000000) :
    Calls Tryz.prog 50 #[.agg #[.int .i64 rt, .int .i64 rq, .int .i64 rv, .slice A n c, .slice A' n' c'], .int .i64 k] wr fun e w' => e = .returned (.int .i64 (k + 2 * D.length + 4 * D2.length)) ∧ ∃ D' D2', D'.length = D.length ∧ D2'.length = D2.length ∧ Marked k D' ∧ MarkedQ (k + 2 * D.length) D2' ∧ ResP w' lo B (.slice A n c) D' ∧ ResQ w' B hi (.slice A' n' c') D2' ∧ Band lo hi wr w' := by
  have hb0 := bel_alloc wr (.cells #[.int .i64 rt, .int .i64 rq, .int .i64 rv, .slice A n c, .slice A' n' c'] 80)
  have X := Box.new wr 80 #[.int .i64 rt, .int .i64 rq, .int .i64 rv, .slice A n c, .slice A' n' c']
  have H := Lib.hid (h.later hb0)
  have H2 := Lib.hid (h2.later hb0)
  have F0 := Band.of_below (lo := lo) (hi := hi) hb0
  clear h h2
  go_enter Tryz.func50, Tryz.ntmps50
  go_wp2_with fail
  generalize (wr.alloc _ : World) = w0 at hb0 X H H2 F0 ⊢
  refine (markP_is k H.out hn hk0 (by omega)).mono ?_
  rintro e w1 ⟨rfl, D', hd1, hd2, hR, hb1⟩
  have X1 := X.band hb1 (.inr (by omega))
  have F1 : Band lo hi w0 w1 := ⟨hb1.os, hb1.tape, hb1.output, hb1.size, fun i hi' hb => hb1.block i hi' (by omega)⟩
  have H21 := H2.out.band hb1 (.inr (Nat.le_refl _))
  have F01 := F0.trans F1
  have c4 : w1.cell? ⟨wr.heap.size, 4, none⟩ = some (.slice A' n' c') := X1.cell 4
  have hkk : 0 ≤ k + 2 * (D.length : Int) := by omega
  replace hd1 := Lib.hid hd1
  replace hd2 := Lib.hid hd2
  replace hR := Lib.hid hR
  clear X hb0 H H2 F0 hb1 F1
  go_wp2_with fail
  refine (markQ_is (k + 2 * D.length) H21 hn2 hkk (by omega)).mono ?_
  rintro e w2 ⟨rfl, D2', he1, he2, hQ, hb2⟩
  have F2 : Band lo hi w1 w2 := ⟨hb2.os, hb2.tape, hb2.output, hb2.size, fun i hi' hb => hb2.block i hi' (by omega)⟩
  have R2 := hR.out.band hb2 (.inl (Nat.le_refl _))
  replace he1 := Lib.hid he1
  replace he2 := Lib.hid he2
  replace hQ := Lib.hid hQ
  replace R2 := Lib.hid R2
  clear hb2 H21 c4 X1
  go_wp2
  go_ret
  exact ⟨rfl, D', D2', hd1.out, he1.out, hd2.out, he2.out, R2.out, hQ.out, F01.trans F2⟩

set_option maxHeartbeats 1000000 in
theorem heldReg_is {wr : World} {lo B hi : Nat} {A : Option Addr} {n c : Nat} {A' : Option Addr} {n' c' : Nat} {D : List (Int × Int)} {D2 : List Opn} (rt rq rv : Int) (k : Int) (h : ResP wr lo B (.slice A n c) D) (h2 : ResQ wr B hi (.slice A' n' c') D2) (hM : Marked k D) (hM2 : MarkedQ (k + 2 * D.length) D2) (hn : D.length ≤ 1048577) (hn2 : D2.length ≤ 1048577) (hk0 : 0 ≤ k) (hk1 : k ≤ 10000000) :
    Calls Tryz.prog 52 #[.agg #[.int .i64 rt, .int .i64 rq, .int .i64 rv, .slice A n c, .slice A' n' c'], .int .i64 k] wr fun e w' => e = .returned (.int .i64 (k + 2 * D.length + 4 * D2.length)) ∧ Below wr.heap.size wr w' := by
  have hb0 := bel_alloc wr (.cells #[.int .i64 rt, .int .i64 rq, .int .i64 rv, .slice A n c, .slice A' n' c'] 80)
  have H := Lib.hid (h.later hb0)
  have H2 := Lib.hid (h2.later hb0)
  have HM := Lib.hid hM
  have HM2 := Lib.hid hM2
  have hkk : 0 ≤ k + 2 * (D.length : Int) := by omega
  have hk2 : ¬ (k + 2 * (D.length : Int) < 0) := by omega
  have hk3 : ¬ (k + 2 * (D.length : Int) + 4 * (D2.length : Int) < 0) := by omega
  clear h h2 hM hM2
  go_enter Tryz.func52, Tryz.ntmps52
  go_wp2_with (first
    | (go_at_call 107; refine (heldP_is k H.out HM.out hn hk0 (by omega)).mono ?_; rintro e w1 ⟨rfl, rfl⟩)
    | (go_at_call 108; refine (heldQ_is (k + 2 * D.length) H2.out HM2.out hn2 hkk (by omega)).mono ?_; rintro e w1 ⟨rfl, rfl⟩))
  go_ret
  exact ⟨rfl, hb0⟩

end Go.Proofs.YtjdepjpjjgkmbaaGreat

/- A variable that holds a shelf, with its lists in blocks of their own, all within a stretch of blocks: what keeps it, its marks, two of them compared. -/
namespace Go.Proofs.YtjdepjpjjgkmbaaGreat
open Go.RowKit

/-- The variable at g holds a shelf with lists ps and os; it and they lie in blocks from lo up to hi. -/
structure Var (wr : World) (lo hi g : Nat) (A : Option Addr) (n c : Nat) (A' : Option Addr) (n' c' : Nat) (rt rq rv : Int) (ps : List (Int × Int)) (os : List Opn) : Prop where
  box : Box wr g 80 #[.int .i64 rt, .int .i64 rq, .int .i64 rv, .slice A n c, .slice A' n' c']
  g0 : lo ≤ g
  g1 : g < hi
  hw : hi ≤ wr.heap.size
  lists : ∃ l B h, lo ≤ l ∧ l ≤ B ∧ B ≤ h ∧ h ≤ hi ∧ (g < l ∨ h ≤ g) ∧ ResP wr l B (.slice A n c) ps ∧ ResQ wr B h (.slice A' n' c') os
theorem Var.later {wr w' : World} {lo hi g : Nat} {A : Option Addr} {n c : Nat} {A' : Option Addr} {n' c' : Nat} {rt rq rv : Int} {ps : List (Int × Int)} {os : List Opn} (h : Var wr lo hi g A n c A' n' c' rt rq rv ps os) (hb : Below wr.heap.size wr w') : Var w' lo hi g A n c A' n' c' rt rq rv ps os := by
  obtain ⟨l, B, hh, h1, h2, h3, h4, h5, h6, h7⟩ := h.lists
  exact ⟨h.box.later hb h.box.lt, h.g0, h.g1, Nat.le_trans h.hw hb.size, l, B, hh, h1, h2, h3, h4, h5, h6.later hb, h7.later hb⟩
theorem Var.band {wr w' : World} {lo hi a b g : Nat} {A : Option Addr} {n c : Nat} {A' : Option Addr} {n' c' : Nat} {rt rq rv : Int} {ps : List (Int × Int)} {os : List Opn} (h : Var wr lo hi g A n c A' n' c' rt rq rv ps os) (hb : Band a b wr w') (hd : hi ≤ a ∨ b ≤ lo) : Var w' lo hi g A n c A' n' c' rt rq rv ps os := by
  obtain ⟨l, B, hh, h1, h2, h3, h4, h5, h6, h7⟩ := h.lists
  have := h.g0
  have := h.g1
  exact ⟨h.box.band hb (by omega), h.g0, h.g1, Nat.le_trans h.hw hb.size, l, B, hh, h1, h2, h3, h4, h5, h6.band hb (by omega), h7.band hb (by omega)⟩
theorem Var.pairs {wr : World} {lo hi g : Nat} {A : Option Addr} {n c : Nat} {A' : Option Addr} {n' c' : Nat} {rt rq rv : Int} {ps : List (Int × Int)} {os : List Opn} (h : Var wr lo hi g A n c A' n' c' rt rq rv ps os) : ps.length = n ∧ Pairs wr wr.heap.size A n ps ∧ os.length = n' ∧ Quads wr wr.heap.size A' n' os ∧ n ≤ c ∧ c ≤ maxLen ∧ n' ≤ c' ∧ c' ≤ maxLen ∧ Slc wr (.slice A n c) ps ∧ SlcQ wr (.slice A' n' c') os := by
  obtain ⟨l, B, hh, h1, h2, h3, h4, h5, h6, h7⟩ := h.lists
  obtain ⟨A1, c1, e1, ha, hb, hc, hd⟩ := h6.form
  obtain ⟨A2, c2, e2, ha2, hb2, hc2, hd2⟩ := h7.resO.form
  injection e1 with e1 e1' e1''
  injection e2 with e2 e2' e2''
  subst e1 e1' e1'' e2 e2' e2''
  exact ⟨rfl, hc, rfl, hc2, ha, hb, ha2, hb2, hd, hd2⟩

/-- A shelf that was answered is laid into a new variable. -/
theorem var_new {w0 W w4 : World} {B : Nat} {A : Option Addr} {n c : Nat} {A' : Option Addr} {n' c' : Nat} {rt rq rv : Int} {ps : List (Int × Int)} {os : List Opn} (h0 : w0.heap.size ≤ W.heap.size) (hB : W.heap.size ≤ B) (hB' : B ≤ w4.heap.size) (hR : ResP w4 W.heap.size B (.slice A n c) ps) (hV : ResO w4 B (.slice A' n' c') os) :
    Var (w4.alloc (.cells #[.int .i64 rt, .int .i64 rq, .int .i64 rv, .slice A n c, .slice A' n' c'] 80)) w0.heap.size (w4.alloc (.cells #[.int .i64 rt, .int .i64 rq, .int .i64 rv, .slice A n c, .slice A' n' c'] 80)).heap.size w4.heap.size A n c A' n' c' rt rq rv ps os := by
  have hb := bel_alloc w4 (.cells #[.int .i64 rt, .int .i64 rq, .int .i64 rv, .slice A n c, .slice A' n' c'] 80)
  exact ⟨Box.new w4 _ _, by omega, by simp, Nat.le_refl _, W.heap.size, B, w4.heap.size, h0, hB, hB', by simp, .inr (Nat.le_refl _), hR.later hb, hV.resQ.later hb⟩
theorem ResQ.far {w : World} {lo hi : Nat} {u : Value} {D : List Opn} (h : ResQ w lo hi u D) {b : Nat} (hb : b < lo) (o : Nat) (x : Value) : ResQ (w.setCell ⟨b, o, none⟩ x) lo hi u D := by
  rcases h with h | ⟨g, cap, h1, h2, h3, h4, h5, h6⟩
  · exact .inl h
  · exact .inr ⟨g, cap, h1, h2, h3, h4, h5, h6.far (by omega) o x⟩
theorem var_put {w0 W w4 : World} {B g : Nat} {z0 z1 z2 z3 z4 : Value} {A : Option Addr} {n c : Nat} {A' : Option Addr} {n' c' : Nat} {rt rq rv : Int} {ps : List (Int × Int)} {os : List Opn} (X : Box w4 g 80 #[z0, z1, z2, z3, z4]) (hg : w0.heap.size ≤ g) (hgW : g < W.heap.size) (hB : W.heap.size ≤ B) (hB' : B ≤ w4.heap.size) (hR : ResP w4 W.heap.size B (.slice A n c) ps) (hV : ResO w4 B (.slice A' n' c') os) :
    Var (((((w4.setCell ⟨g, 0, none⟩ (.int .i64 rt)).setCell ⟨g, 1, none⟩ (.int .i64 rq)).setCell ⟨g, 2, none⟩ (.int .i64 rv)).setCell ⟨g, 3, none⟩ (.slice A n c)).setCell ⟨g, 4, none⟩ (.slice A' n' c')) w0.heap.size (((((w4.setCell ⟨g, 0, none⟩ (.int .i64 rt)).setCell ⟨g, 1, none⟩ (.int .i64 rq)).setCell ⟨g, 2, none⟩ (.int .i64 rv)).setCell ⟨g, 3, none⟩ (.slice A n c)).setCell ⟨g, 4, none⟩ (.slice A' n' c')).heap.size g A n c A' n' c' rt rq rv ps os := by
  have hs : (((((w4.setCell ⟨g, 0, none⟩ (.int .i64 rt)).setCell ⟨g, 1, none⟩ (.int .i64 rq)).setCell ⟨g, 2, none⟩ (.int .i64 rv)).setCell ⟨g, 3, none⟩ (.slice A n c)).setCell ⟨g, 4, none⟩ (.slice A' n' c')).heap.size = w4.heap.size := by simp only [size_set]
  refine ⟨X.put5 _ _ _ _ _, hg, by rw [hs]; exact X.lt, Nat.le_refl _, W.heap.size, B, w4.heap.size, by omega, hB, hB', by rw [hs]; exact Nat.le_refl _, .inl hgW, hR.far5 hgW _ _ _ _ _, ?_⟩
  exact ((((hV.resQ.far (by omega) 0 _).far (by omega) 1 _).far (by omega) 2 _).far (by omega) 3 _).far (by omega) 4 _

theorem eqVar_is {wr : World} {lo hi g : Nat} {A : Option Addr} {n c : Nat} {A' : Option Addr} {n' c' : Nat} {rt rq rv : Int} {ps : List (Int × Int)} {os : List Opn} {lo2 hi2 g2 : Nat} {A2 : Option Addr} {n2 c2 : Nat} {A2' : Option Addr} {n2' c2' : Nat} (h : Var wr lo hi g A n c A' n' c' rt rq rv ps os) (h2 : Var wr lo2 hi2 g2 A2 n2 c2 A2' n2' c2' rt rq rv ps os) (hp : ps.length ≤ 1048576) (hq : os.length ≤ 1048577) :
    Calls Tryz.prog 48 #[.agg #[.int .i64 rt, .int .i64 rq, .int .i64 rv, .slice A n c, .slice A' n' c'], .agg #[.int .i64 rt, .int .i64 rq, .int .i64 rv, .slice A2 n2 c2, .slice A2' n2' c2']] wr fun e w' => e = .returned (.bool true) ∧ Below wr.heap.size wr w' := by
  obtain ⟨e1, p1, e2, q1, _⟩ := h.pairs
  obtain ⟨f1, p2, f2, q2, _⟩ := h2.pairs
  subst e1 e2 f1 f2
  exact eqReg_same rt rq rv A A2 _ c c2 A' A2' _ c' c2' ps os wr hp hq p1 p2 q1 q2
theorem markVar_is {wr : World} {lo hi g : Nat} {A : Option Addr} {n c : Nat} {A' : Option Addr} {n' c' : Nat} {rt rq rv : Int} {ps : List (Int × Int)} {os : List Opn} (k : Int) (h : Var wr lo hi g A n c A' n' c' rt rq rv ps os) (hp : ps.length ≤ 1048577) (hq : os.length ≤ 1048577) (hk0 : 0 ≤ k) (hk1 : k ≤ 10000000) :
    Calls Tryz.prog 50 #[.agg #[.int .i64 rt, .int .i64 rq, .int .i64 rv, .slice A n c, .slice A' n' c'], .int .i64 k] wr fun e w' => e = .returned (.int .i64 (k + 2 * ps.length + 4 * os.length)) ∧ ∃ D D2, D.length = ps.length ∧ D2.length = os.length ∧ Marked k D ∧ MarkedQ (k + 2 * ps.length) D2 ∧ Var w' lo hi g A n c A' n' c' rt rq rv D D2 ∧ Band lo hi wr w' := by
  obtain ⟨l, B, hh, h1, h2, h3, h4, h5, h6, h7⟩ := h.lists
  have hw := h.hw
  refine (markReg_is rt rq rv k h6 h7 h2 h3 (by omega) hp hq hk0 hk1).mono ?_
  rintro e w' ⟨rfl, D, D2, hd1, hd2, hd3, hd4, hd5, hd6, hb⟩
  have hg0 := h.g0
  have hg1 := h.g1
  exact ⟨rfl, D, D2, hd1, hd2, hd3, hd4, ⟨h.box.band hb (by omega), hg0, hg1, Nat.le_trans hw hb.size, l, B, hh, h1, h2, h3, h4, h5, hd5, hd6⟩, ⟨hb.os, hb.tape, hb.output, hb.size, fun i hi' hx => hb.block i hi' (by omega)⟩⟩
theorem heldVar_is {wr : World} {lo hi g : Nat} {A : Option Addr} {n c : Nat} {A' : Option Addr} {n' c' : Nat} {rt rq rv : Int} {D : List (Int × Int)} {D2 : List Opn} (k : Int) (h : Var wr lo hi g A n c A' n' c' rt rq rv D D2) (hM : Marked k D) (hM2 : MarkedQ (k + 2 * D.length) D2) (hp : D.length ≤ 1048577) (hq : D2.length ≤ 1048577) (hk0 : 0 ≤ k) (hk1 : k ≤ 10000000) :
    Calls Tryz.prog 52 #[.agg #[.int .i64 rt, .int .i64 rq, .int .i64 rv, .slice A n c, .slice A' n' c'], .int .i64 k] wr fun e w' => e = .returned (.int .i64 (k + 2 * D.length + 4 * D2.length)) ∧ Below wr.heap.size wr w' := by
  obtain ⟨l, B, hh, h1, h2, h3, h4, h5, h6, h7⟩ := h.lists
  exact heldReg_is rt rq rv k h6 h7 hM hM2 hp hq hk0 hk1
theorem heldVarN_is {wr : World} {lo hi g : Nat} {A : Option Addr} {n c : Nat} {A' : Option Addr} {n' c' : Nat} {rt rq rv : Int} {D : List (Int × Int)} {D2 : List Opn} {N N2 : Nat} (k : Int) (h : Var wr lo hi g A n c A' n' c' rt rq rv D D2) (hN : D.length = N) (hN2 : D2.length = N2) (hM : Marked k D) (hM2 : MarkedQ (k + 2 * N) D2) (hp : N ≤ 1048577) (hq : N2 ≤ 1048577) (hk0 : 0 ≤ k) (hk1 : k ≤ 10000000) :
    Calls Tryz.prog 52 #[.agg #[.int .i64 rt, .int .i64 rq, .int .i64 rv, .slice A n c, .slice A' n' c'], .int .i64 k] wr fun e w' => e = .returned (.int .i64 (k + 2 * N + 4 * N2)) ∧ Below wr.heap.size wr w' := by
  subst hN hN2
  exact heldVar_is k h hM hM2 hp hq hk0 hk1
/-- A copy that the laws make, in a variable. -/
theorem var_made {w0 w5 : World} {g h n n' : Nat} {rt rq rv : Int} {ps : List (Int × Int)} {os : List Opn} (hn : ps.length = n) (hn' : os.length = n') (hg : w0.heap.size ≤ g) (hgh : g < h) (hP : Held w5 g ps) (hQ : HeldQ w5 h os) (hp : n ≤ maxLen) (hq : n' ≤ maxLen) :
    Var (w5.alloc (.cells #[.int .i64 rt, .int .i64 rq, .int .i64 rv, .slice (some ⟨g, 0, none⟩) n n, .slice (some ⟨h, 0, none⟩) n' n'] 80)) w0.heap.size (w5.alloc (.cells #[.int .i64 rt, .int .i64 rq, .int .i64 rv, .slice (some ⟨g, 0, none⟩) n n, .slice (some ⟨h, 0, none⟩) n' n'] 80)).heap.size w5.heap.size (some ⟨g, 0, none⟩) n n (some ⟨h, 0, none⟩) n' n' rt rq rv ps os := by
  subst hn hn'
  have hb := bel_alloc w5 (.cells #[.int .i64 rt, .int .i64 rq, .int .i64 rv, .slice (some ⟨g, 0, none⟩) ps.length ps.length, .slice (some ⟨h, 0, none⟩) os.length os.length] 80)
  have hl := hP.lt
  have hl2 := hQ.lt
  exact ⟨Box.new w5 _ _, by omega, by simp, Nat.le_refl _, w0.heap.size, g + 1, w5.heap.size, Nat.le_refl _, by omega, by omega, by simp, .inr (Nat.le_refl _), .inr ⟨g, _, hg, by omega, rfl, Nat.le_refl _, hp, hP.later hb⟩, .inr ⟨h, _, by omega, by omega, rfl, Nat.le_refl _, hq, hQ.later hb⟩⟩

end Go.Proofs.YtjdepjpjjgkmbaaGreat
