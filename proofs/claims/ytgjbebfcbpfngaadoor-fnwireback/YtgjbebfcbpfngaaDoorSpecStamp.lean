/- What the functions of impl/l02_stamp.go answer at every stamp: contracts of each of them. -/
import Derived.Test.YtgjbebfcbpfngaaDoorBase
import Derived.Test.YtgjbebfcbpfngaaDoorStampBase
import Derived.Deep.QuietTactic
import Derived.BigQuiet
import Derived.Laws.MakeOwn
import Derived.BigRegion
namespace Go.Proofs.YtgjbebfcbpfngaaDoor
open Go.RowKit

theorem twoAfter {w : World} {g : Nat} {t : TypeId} {v0 v1 : Value} (h : Box w g t #[v0, v1]) : (∀ p : After w, p.x.cell? ⟨g, 0, none⟩ = some v0) ∧ (∀ p : After w, p.x.cell? ⟨g, 1, none⟩ = some v1) :=
  ⟨After.cell h.lt (h.cell 0), After.cell h.lt (h.cell 1)⟩
theorem pairsAfter {w : World} {A : Option Addr} {n : Nat} {ps : List (Int × Int)} (h : Pairs w w.heap.size A n ps) (p : After w) : Pairs p.x p.x.heap.size A n ps := h.later p.bel

theorem stampOk_any (c k : Int) (w : World) :
    Calls Tryd.prog 70 #[.agg #[.int .i64 c, .int .i64 k]] w fun e w' => e = .returned (.bool (stB c k)) ∧ Below w.heap.size w w' := by
  by_cases hc : c = 0
  · subst hc
    by_cases hk : k = 0
    · subst hk
      go_enter Tryd.func70, Tryd.ntmps70
      go_wp2
      go_ret
      exact ⟨rfl, bel_alloc _ _⟩
    · have e : Hid (stB 0 k = false) := by show stB 0 k = false; simp [stB, hk]
      have hk' : (k == 0) = false := by simpa using hk
      go_enter Tryd.func70, Tryd.ntmps70
      go_wp2
      go_ret
      exact ⟨by rw [e.out]; first | rfl | simp [hk], bel_alloc _ _⟩
  · have hc' : (c == 0) = false := by simpa using hc
    have e := Lib.hid (stB_not hc k)
    rcases h1 : inB c 1 100000 with _ | _
    · go_enter Tryd.func70, Tryd.ntmps70
      go_wp2_with (go_at_call 38; refine (within_any _ _ _ _).mono ?_; rintro e w' ⟨rfl, rfl⟩)
      go_ret
      exact ⟨by rw [e.out, h1]; rfl, bel_alloc _ _⟩
    · go_enter Tryd.func70, Tryd.ntmps70
      go_wp2_with (go_at_call 38; refine (within_any _ _ _ _).mono ?_; rintro e w' ⟨rfl, rfl⟩)
      go_ret
      exact ⟨by rw [e.out, h1]; rfl, bel_alloc _ _⟩

end Go.Proofs.YtgjbebfcbpfngaaDoor

/- What the model's functions of spec/l02_stamp.go answer at every stamp: contracts of each of them. -/
namespace Go.Proofs.YtgjbebfcbpfngaaDoor
open Go.RowKit

theorem specStampOk_any (c k : Int) (w : World) :
    Calls Tryd.prog 34 #[.agg #[.int .i64 c, .int .i64 k]] w fun e w' => e = .returned (.bool (stB c k)) ∧ Below w.heap.size w w' := by
  rw [← stB_spec]
  rcases h1 : inB c 0 100000 with _ | _
  · go_enter Tryd.func34, Tryd.ntmps34
    go_wp2_with (go_at_call 30; refine (l1In_any _ _ _ _).mono ?_; rintro e w' ⟨rfl, rfl⟩)
    go_ret
    exact ⟨rfl, bel_alloc _ _⟩
  rcases h2 : inB k 0 15 with _ | _
  · go_enter Tryd.func34, Tryd.ntmps34
    go_wp2_with (go_at_call 30; refine (l1In_any _ _ _ _).mono ?_; rintro e w' ⟨rfl, rfl⟩)
    go_ret
    exact ⟨rfl, bel_alloc _ _⟩
  by_cases h3 : 0 < c
  · have e : Hid (decide (0 < c) = true) := decide_eq_true h3
    go_enter Tryd.func34, Tryd.ntmps34
    go_wp2_with (go_at_call 30; refine (l1In_any _ _ _ _).mono ?_; rintro e w' ⟨rfl, rfl⟩)
    go_ret
    exact ⟨by rw [e.out]; rfl, bel_alloc _ _⟩
  have e : Hid (decide (0 < c) = false) := decide_eq_false h3
  by_cases h4 : k = 0
  · subst h4
    go_enter Tryd.func34, Tryd.ntmps34
    go_wp2_with (go_at_call 30; refine (l1In_any _ _ _ _).mono ?_; rintro e w' ⟨rfl, rfl⟩)
    go_ret
    exact ⟨by rw [e.out]; rfl, bel_alloc _ _⟩
  · have h4' : (k == 0) = false := by simpa using h4
    have e' : Hid (decide (k = 0) = false) := decide_eq_false h4
    go_enter Tryd.func34, Tryd.ntmps34
    go_wp2_with (go_at_call 30; refine (l1In_any _ _ _ _).mono ?_; rintro e w' ⟨rfl, rfl⟩)
    go_ret
    exact ⟨by rw [e.out, e'.out]; rfl, bel_alloc _ _⟩

set_option maxHeartbeats 400000 in
theorem specNext_any (c k x : Int) (w : World) :
    Calls Tryd.prog 86 #[.agg #[.int .i64 c, .int .i64 k], .int .i64 x] w fun e w' => e = .returned (nxV c k x) ∧ Below w.heap.size w w' := by
  have hy : ∃ y : Int, wrap64 (c + 1) = y ∧ (stB c k = true → y = c + 1) := by
    refine ⟨_, rfl, fun h => ?_⟩
    have := stB_bd h
    unfold wrap64
    omega
  obtain ⟨y, hy1, hy2⟩ := hy
  have H2 := Lib.hid hy2
  clear hy2
  have hb0 := bel_trans (bel_trans (bel_alloc w (.cells #[.int .i64 c, .int .i64 k] 28)) (bel_alloc _ (.cells #[.int .i64 0, .int .i64 0] 28))) (bel_alloc _ (.cells #[.int .i64 y, .int .i64 x] 28))
  have X := (Box.new (w.alloc (.cells #[.int .i64 c, .int .i64 k] 28)) 28 #[.int .i64 0, .int .i64 0]).alloc (.cells #[.int .i64 y, .int .i64 x] 28)
  have Y := Box.new ((w.alloc (.cells #[.int .i64 c, .int .i64 k] 28)).alloc (.cells #[.int .i64 0, .int .i64 0] 28)) 28 #[.int .i64 y, .int .i64 x]
  simp only [World.size_alloc] at X Y
  go_enter Tryd.func86, Tryd.ntmps86
  go_wp2_with fail
  generalize (((w.alloc _).alloc _).alloc _ : World) = w0 at hb0 X Y ⊢
  refine (specStampOk_any c k w0).mono ?_
  rintro e w1 ⟨rfl, hb1⟩
  have X1 := X.later hb1 X.lt
  have Y1 := Y.later hb1 Y.lt
  have E1 := bel_trans hb0 hb1
  clear X Y hb0 hb1
  obtain ⟨x0, x1⟩ := X1.two
  obtain ⟨y0, y1⟩ := Y1.two
  have fx := X1.frozen
  rcases h1 : stB c k with _ | _
  · have H := Lib.hid (nxV_no (nxB_1 h1 x))
    go_wp2
    exact bodyPost_ret (v := .tuple #[.agg #[.int .i64 0, .int .i64 0], .bool false]) (by simp [results, Tryd.results86, go_sem, x0, x1]) rfl ⟨by rw [H.out], (E1.setCell (by simp) _).setCell (by simp) _⟩
  · have e1 := H2.out h1
    subst e1
    clear hy1 H2
    go_wp2_with fail
    refine (specStampOk_any (c + 1) x w1).mono ?_
    rintro e w3 ⟨rfl, hb3⟩
    have Y3 := Y1.later hb3 Y1.lt
    have X3 := X1.later hb3 X1.lt
    have E3 := bel_trans E1 hb3
    clear x0 x1 y0 y1 fx
    obtain ⟨y0, y1⟩ := Y3.two
    obtain ⟨x0, x1⟩ := X3.two
    have fx := X3.frozen
    rcases h2 : stB (c + 1) x with _ | _
    · have H := Lib.hid (nxV_no (nxB_2 h2 k))
      go_wp2
      exact bodyPost_ret (v := .tuple #[.agg #[.int .i64 0, .int .i64 0], .bool false]) (by simp [results, Tryd.results86, go_sem, x0, x1]) rfl ⟨by rw [H.out], (E3.setCell (by simp) _).setCell (by simp) _⟩
    · have H := Lib.hid (nxV_yes (nxB_3 h1 h2))
      go_wp2
      exact bodyPost_ret (v := .tuple #[.agg #[.int .i64 (c + 1), .int .i64 x], .bool true]) (by simp [results, Tryd.results86, go_sem, x0, x1]) rfl ⟨by rw [H.out], (E3.setCell (by simp) _).setCell (by simp) _⟩

end Go.Proofs.YtgjbebfcbpfngaaDoor

/- The laws' own copies of stamps and of lists of them, their size and the test that two are alike: contracts of each of them. -/
namespace Go.Proofs.YtgjbebfcbpfngaaDoor
open Go.RowKit

theorem eqStamp_same (c k : Int) (w : World) :
    Calls Tryd.prog 58 #[.agg #[.int .i64 c, .int .i64 k], .agg #[.int .i64 c, .int .i64 k]] w fun e w' => e = .returned (.bool true) ∧ Below w.heap.size w w' := by
  go_enter Tryd.func58, Tryd.ntmps58
  go_wp2
  go_ret
  exact ⟨rfl, bel_trans (bel_alloc _ _) (bel_alloc _ _)⟩

theorem Tryd.infoStamp : (Tryd.prog.info? 28).map (fun i => (i.zero, i.size, i.bytes)) = some (some (.agg #[.int .i64 0, .int .i64 0]), 2, 16) := by kernel_rfl

/-- n pairs of noughts are made. -/
theorem run_make_pairs {P : Program} (t e : TypeId) (ht : P.underlying t = some (.slice e)) (hinfo : (P.info? e).map (fun i => (i.zero, i.size, i.bytes)) = some (some (.agg #[.int .i64 0, .int .i64 0]), 2, 16))
    (n : Nat) (hn : n ≤ 1048576) (w : World) :
    (Instr.makeSlice t (.int .i64 (n : Int)) (.int .i64 (n : Int))).run P w = .ok (.slice (some ⟨w.heap.size, 0, none⟩) n n) (w.alloc (.cells (madeCells #[.int .i64 0, .int .i64 0] (n * 2)) e)) := by
  obtain ⟨i, hi, hzz⟩ := Option.map_eq_some_iff.1 hinfo
  simp only [Prod.mk.injEq] at hzz
  obtain ⟨hz, hs, hb⟩ := hzz
  have hr := run_make (P := P) w t e i _ ht hi hz .i64 .i64 n n (by omega) (Int.le_refl _) (by rw [hb]; omega) (by omega)
  simp only [Int.toNat_natCast, hs] at hr
  exact hr
theorem made_pairs (w : World) (n : Nat) (t : TypeId) : (w.alloc (.cells (madeCells #[.int .i64 0, .int .i64 0] (n * 2)) t)).rowIs w.heap.size t (n * 2) (fun _ => .int .i64 0) :=
  ⟨madeCells #[.int .i64 0, .int .i64 0] (n * 2), heap_alloc_new w _, size_madeCells _ _, fun i hi => by
    have h : i % 2 = 0 ∨ i % 2 = 1 := by omega
    rcases h with h | h <;> simp [madeCells, hi, h]⟩

/-- What a copy of n pairs leaves: a new row that holds them. -/
def MadePairs (w : World) (n : Nat) (ps : List (Int × Int)) (e : Ending) (w' : World) : Prop :=
  ∃ g, w.heap.size ≤ g ∧ e = .returned (.slice (some ⟨g, 0, none⟩) n n) ∧ Pairs w' w'.heap.size (some ⟨g, 0, none⟩) n ps ∧ Below w.heap.size w w'

/-- The first k pairs are copied. -/
def uptoP (ps : List (Int × Int)) (k j : Nat) : Value := if j < k * 2 then (if j % 2 = 0 then .int .i64 (pth ps (j / 2)).1 else .int .i64 (pth ps (j / 2)).2) else .int .i64 0
theorem uptoP_zero (ps : List (Int × Int)) (j : Nat) : uptoP ps 0 j = .int .i64 0 := by simp [uptoP]
theorem uptoP_succ {w : World} {b n k : Nat} {t : TypeId} {ps : List (Int × Int)} {x y : Int} (h : w.rowIs b t n (uptoP ps k)) (hx : pth ps k = (x, y)) :
    ((w.setCell ⟨b, k * 2, none⟩ (.int .i64 x)).setCell ⟨b, k * 2 + 1, none⟩ (.int .i64 y)).rowIs b t n (uptoP ps (k + 1)) :=
  ((h.set (k * 2) _).set (k * 2 + 1) _).congr fun i _ => by
    unfold uptoP
    by_cases e : i = k * 2 + 1
    · subst e
      have h1 : (k * 2 + 1) % 2 = 1 := by omega
      have h2 : (k * 2 + 1) / 2 = k := by omega
      have h3 : k * 2 + 1 < (k + 1) * 2 := by omega
      simp [h1, h2, h3, hx]
    · by_cases f : i = k * 2
      · subst f
        have h1 : (k * 2) % 2 = 0 := by omega
        have h2 : (k * 2) / 2 = k := by omega
        have h3 : k * 2 < (k + 1) * 2 := by omega
        simp [h2, h3, hx]
      · by_cases g : i < k * 2
        · simp [e, f, g, show i < (k + 1) * 2 by omega]
        · simp [e, f, g, show ¬ i < (k + 1) * 2 by omega]
theorem uptoP_all {w : World} {b n : Nat} {t : TypeId} {ps : List (Int × Int)} (h : w.rowIs b t (n * 2) (uptoP ps n)) (hl : ps.length = n) : Pairs w w.heap.size (some ⟨b, 0, none⟩) n ps := by
  refine ⟨hl, fun _ => ⟨b, 0, rfl, h.lt, fun i hi => ⟨?_, ?_⟩⟩⟩
  · have h1 : (i * 2) % 2 = 0 := by omega
    have h2 : (i * 2) / 2 = i := by omega
    rw [Nat.zero_add, h.cell (i := i * 2) (by omega)]
    simp [uptoP, h2, show i * 2 < n * 2 by omega]
  · have h1 : (i * 2 + 1) % 2 = 1 := by omega
    have h2 : (i * 2 + 1) / 2 = i := by omega
    rw [Nat.zero_add, h.cell (i := i * 2 + 1) (by omega)]
    simp [uptoP, h1, h2, show i * 2 + 1 < n * 2 by omega]

end Go.Proofs.YtgjbebfcbpfngaaDoor

/- The library's stable sort over a slice of pairs, first part: what a slice of pairs holds, exchanging two of them, exchanging two ranges. -/
namespace Go.Proofs.YtgjbebfcbpfngaaDoor
open Go.RowKit

/-- The block g holds these pairs, from its beginning. -/
structure Held (w : World) (g : Nat) (d : List (Int × Int)) : Prop where
  lt : g < w.heap.size
  fr : ∀ o, w.frozen? ⟨g, o, none⟩ = false
  at0 : ∀ i, i < d.length → w.cell? ⟨g, i * 2, none⟩ = some (.int .i64 (pth d i).1)
  at1 : ∀ i, i < d.length → w.cell? ⟨g, i * 2 + 1, none⟩ = some (.int .i64 (pth d i).2)
theorem Held.later {w w' : World} {g : Nat} {d : List (Int × Int)} (h : Held w g d) (hb : Below w.heap.size w w') : Held w' g d :=
  ⟨Nat.lt_of_lt_of_le h.lt hb.size, fun o => (hb.frozen (p := ⟨g, o, none⟩) h.lt).trans (h.fr o), fun i hi => (hb.cell (p := ⟨g, i * 2, none⟩) h.lt).trans (h.at0 i hi), fun i hi => (hb.cell (p := ⟨g, i * 2 + 1, none⟩) h.lt).trans (h.at1 i hi)⟩
theorem Held.drew {w : World} {g : Nat} {d : List (Int × Int)} (h : Held w g d) : Held w.drew g d := ⟨h.lt, h.fr, h.at0, h.at1⟩

theorem cell_set1 {w : World} {g i j : Nat} {u v : Value} (h : w.cell? ⟨g, i, none⟩ = some u) : (w.setCell ⟨g, j, none⟩ v).cell? ⟨g, i, none⟩ = some (if i = j then v else u) := by
  by_cases e : i = j
  · subst e
    rw [World.cell?_setCell_same _ _ _ h]
    simp
  · rw [World.cell?_setCell_other _ _ _ _ (fun e' => e (by injection e' with _ e'; exact e'.symm)), h]
    simp [e]

/-- One pair is written. -/
theorem Held.put {w : World} {g : Nat} {d : List (Int × Int)} (h : Held w g d) (i : Nat) (x : Int × Int) :
    Held ((w.setCell ⟨g, i * 2, none⟩ (.int .i64 x.1)).setCell ⟨g, i * 2 + 1, none⟩ (.int .i64 x.2)) g (d.set i x) := by
  refine ⟨by simp only [size_set]; exact h.lt, fun o => by simp [h.fr o], fun k hk => ?_, fun k hk => ?_⟩
  · rw [List.length_set] at hk
    rw [cell_set1 (cell_set1 (h.at0 k hk))]
    have e1 : ¬ k * 2 = i * 2 + 1 := by omega
    rw [if_neg e1]
    by_cases e : k = i
    · subst e; simp [pth, hk]
    · rw [if_neg (by omega)]; simp [pth, show ¬ i = k by omega]
  · rw [List.length_set] at hk
    rw [cell_set1 (cell_set1 (h.at1 k hk))]
    have e1 : ¬ k * 2 + 1 = i * 2 := by omega
    rw [if_neg e1]
    by_cases e : k = i
    · subst e; simp [pth, hk]
    · rw [if_neg (by omega)]; simp [pth, show ¬ i = k by omega]
/-- Two pairs are exchanged. -/
theorem Held.swap {w : World} {g : Nat} {d : List (Int × Int)} (h : Held w g d) (i j : Nat) {x y : Int × Int} (hx : pth d i = x) (hy : pth d j = y) :
    Held ((((w.setCell ⟨g, i * 2, none⟩ (.int .i64 y.1)).setCell ⟨g, i * 2 + 1, none⟩ (.int .i64 y.2)).setCell ⟨g, j * 2, none⟩ (.int .i64 x.1)).setCell ⟨g, j * 2 + 1, none⟩ (.int .i64 x.2)) g (swp d i j) := by
  subst hx hy
  exact (h.put i (pth d j)).put j (pth d i)
theorem grown_swap {a w : World} {g : Nat} (h : a.grownBy w (some g)) (i j k l : Nat) (p q r s : Value) :
    a.grownBy ((((w.setCell ⟨g, i, none⟩ p).setCell ⟨g, j, none⟩ q).setCell ⟨g, k, none⟩ r).setCell ⟨g, l, none⟩ s) (some g) :=
  grown_set (grown_set (grown_set (grown_set h _ _) _ _) _ _) _ _

theorem vint {a b : Int} (h : a = b) : Value.int .i64 a = Value.int .i64 b := by rw [h]
theorem take_more {l : List (Int × Int)} {k : Nat} {x : Int × Int} (h : l.drop k = x :: l.drop (k + 1)) : l.take (k + 1) = l.take k ++ [x] := by
  have hk : k < l.length := by
    rcases Nat.lt_or_ge k l.length with h' | h'
    · exact h'
    · rw [List.drop_of_length_le h'] at h; cases h
  rw [List.take_succ_eq_append_getElem hk]
  rw [List.drop_eq_getElem_cons hk] at h
  injection h with h1 _
  rw [h1]

/-- Nothing is answered; the block holds these now, and no other block is changed. -/
def Does (w : World) (g : Nat) (d : List (Int × Int)) (e : Ending) (w' : World) : Prop := e = .returned (.tuple #[]) ∧ Held w' g d ∧ w.grownBy w' (some g)

end Go.Proofs.YtgjbebfcbpfngaaDoor

/- The laws' own copies of seals and of lists of them, their size, the test that two are alike, their marks: contracts of each of them. -/
namespace Go.Proofs.YtgjbebfcbpfngaaDoor
open Go.RowKit

theorem eqSealP_same (c k : Int) (w : World) :
    Calls Tryd.prog 89 #[.agg #[.int .i64 c, .int .i64 k], .agg #[.int .i64 c, .int .i64 k]] w fun e w' => e = .returned (.bool true) ∧ Below w.heap.size w w' := by
  go_enter Tryd.func89, Tryd.ntmps89
  go_wp2
  go_ret
  exact ⟨rfl, bel_trans (bel_alloc _ _) (bel_alloc _ _)⟩

theorem Tryd.infoSeal : (Tryd.prog.info? 94).map (fun i => (i.zero, i.size, i.bytes)) = some (some (.agg #[.int .i64 0, .int .i64 0]), 2, 16) := by kernel_rfl

/-- What a copy of n pairs leaves: a new block that holds them. -/
def MadeHeld (w : World) (n : Nat) (ps : List (Int × Int)) (e : Ending) (w' : World) : Prop :=
  ∃ g, w.heap.size ≤ g ∧ e = .returned (.slice (some ⟨g, 0, none⟩) n n) ∧ ps.length = n ∧ Held w' g ps ∧ Below w.heap.size w w'
theorem upto_held {w : World} {b n : Nat} {t : TypeId} {ps : List (Int × Int)} (h : w.rowIs b t (n * 2) (uptoP ps n)) (hl : ps.length = n) : Held w b ps := by
  have hp := uptoP_all h hl
  refine ⟨h.lt, fun o => h.frozen o, fun i hi => ?_, fun i hi => ?_⟩
  · obtain ⟨b', o, hA, _, hc⟩ := hp.2 (by omega)
    cases hA
    have := (hc i (by omega)).1
    rwa [Nat.zero_add] at this
  · obtain ⟨b', o, hA, _, hc⟩ := hp.2 (by omega)
    cases hA
    have := (hc i (by omega)).2
    rwa [Nat.zero_add] at this

set_option maxHeartbeats 400000 in
theorem eqSeals_same (A A' : Option Addr) (n cap cap' : Nat) (ps : List (Int × Int)) (w : World) (hm : n ≤ 1048576) (hr : Pairs w w.heap.size A n ps) (hr' : Pairs w w.heap.size A' n ps) :
    Calls Tryd.prog 59 #[.slice A n cap, .slice A' n cap'] w fun e w' => e = .returned (.bool true) ∧ Below w.heap.size w w' := by
  have HR := Lib.hid hr
  have HR' := Lib.hid hr'
  clear hr hr'
  go_enter Tryd.func59, Tryd.ntmps59
  go_wp2_with fail
  go_loopw [5] (fun i wr => ∃ k : Nat, k ≤ n ∧ i = .int .i64 k ∧ Below w.heap.size w wr) (fun i _ => n - (intOf i).toNat)
  case atStart => exact ⟨0, Nat.zero_le _, rfl, Below.refl _ _⟩
  case round =>
    obtain ⟨k, hk, rfl, hb⟩ := hrel
    by_cases hlt : k < n
    · obtain ⟨b, o, hA, hbB, hcell⟩ := HR.out.2 (by omega)
      obtain ⟨b', o', hA', hbB', hcell'⟩ := HR'.out.2 (by omega)
      subst hA hA'
      obtain ⟨g0, g1⟩ := hcell k hlt
      obtain ⟨h0, h1⟩ := hcell' k hlt
      have hz := hb.size
      have g0 := After.cell (w := wr) (a := ⟨b, o + k * 2, none⟩) (by simp; omega) ((hb.cell (p := ⟨b, o + k * 2, none⟩) hbB).trans g0)
      have g1 := After.cell (w := wr) (a := ⟨b, o + k * 2 + 1, none⟩) (by simp; omega) ((hb.cell (p := ⟨b, o + k * 2 + 1, none⟩) hbB).trans g1)
      have h0 := After.cell (w := wr) (a := ⟨b', o' + k * 2, none⟩) (by simp; omega) ((hb.cell (p := ⟨b', o' + k * 2, none⟩) hbB').trans h0)
      have h1 := After.cell (w := wr) (a := ⟨b', o' + k * 2 + 1, none⟩) (by simp; omega) ((hb.cell (p := ⟨b', o' + k * 2 + 1, none⟩) hbB').trans h1)
      generalize pth ps k = x at g0 g1 h0 h1
      obtain ⟨x, y⟩ := x
      have hlt' : (k : Int) < (n : Int) := by omega
      clear hcell hcell'
      go_wp2_with fail
      refine wp_region_after (by kernel_rfl) (by kernel_rfl) ?_
      repeat (first | go_big_quiet_step ((go_at_call 89; exact after_of (eqSealP_same x y _))) | quiet_step ((go_at_call 89; exact after_of (eqSealP_same x y _))))
      refine wpQuiet_nil ?_
      intro pw
      have E3 := bel_trans hb pw.bel
      go_wp2
      go_roundw
      case rel => exact ⟨k + 1, by omega, by go_num, E3⟩
      case measure => simp [intOf]; omega
    · go_wp2
      go_ret
      exact ⟨rfl, hb⟩

theorem Held.pairs {w : World} {g : Nat} {ps : List (Int × Int)} (h : Held w g ps) : Pairs w w.heap.size (some ⟨g, 0, none⟩) ps.length ps :=
  ⟨rfl, fun _ => ⟨g, 0, rfl, h.lt, fun i hi => ⟨by rw [Nat.zero_add]; exact h.at0 i hi, by rw [Nat.zero_add]; exact h.at1 i hi⟩⟩⟩

/-- Marked from k on. -/
def Marked (k : Int) (d : List (Int × Int)) : Prop := ∀ j, j < d.length → pth d j = (k + 2 * j, k + 2 * j + 1)

set_option maxHeartbeats 1000000 in
theorem mark_is (g n cap : Nat) (k : Int) (d : List (Int × Int)) (w : World) (hn : n ≤ 4194304) (hk0 : 0 ≤ k) (hk1 : k ≤ 100000000) (hl : d.length = n) (H : Held w g d) :
    Calls Tryd.prog 62 #[.slice (some ⟨g, 0, none⟩) n cap, .int .i64 k] w fun e w' => e = .returned (.int .i64 (k + 2 * n)) ∧ ∃ d', d'.length = n ∧ Marked k d' ∧ Held w' g d' ∧ w.grownBy w' (some g) := by
  have HH := Lib.hid H
  replace hl := Lib.hid hl
  clear H
  go_enter Tryd.func62, Tryd.ntmps62
  go_wp2_with fail
  go_loopw [1, 5] (fun kv iv wr => ∃ (i : Nat) (k' : Int) (d' : List (Int × Int)), i ≤ n ∧ k + 2 * i = k' ∧ iv = .int .i64 i ∧ kv = .int .i64 k' ∧ d'.length = n ∧ (∀ j, j < i → pth d' j = (k + 2 * j, k + 2 * j + 1)) ∧ Held wr g d' ∧ w.grownBy wr (some g)) (fun _ i _ => n - (intOf i).toNat)
  case atStart => exact ⟨0, k, d, Nat.zero_le _, by omega, rfl, rfl, hl.out, by omega, HH.out, grown_refl _ _⟩
  case round =>
    obtain ⟨i, k', d', hi, hk', rfl, rfl, hl', hm, hh, hg⟩ := hrel
    have hb : k' ≤ 200000000 := by omega
    have hb0 : 0 ≤ k' := by omega
    by_cases hlt : i < n
    · have hlt' : (i : Int) < (n : Int) := by omega
      have c0 := hh.at0 i (by omega)
      have c1 := hh.at1 i (by omega)
      have fr := hh.fr
      have HP := Lib.hid (hh.put i (k', k' + 1))
      have HG := Lib.hid (grown_set (grown_set hg (i * 2) (.int .i64 k')) (i * 2 + 1) (.int .i64 (k' + 1)))
      replace hl' := Lib.hid hl'
      replace hm := Lib.hid hm
      replace hk' := Lib.hid hk'
      clear hg hh
      go_wp2
      go_roundw
      case rel =>
        have e := hk'.out
        refine ⟨i + 1, k' + 1 + 1, d'.set i (k', k' + 1), by omega, by omega, by go_num, rfl, by simpa using hl'.out, fun j hj => ?_, HP.out, HG.out⟩
        by_cases e' : j = i
        · subst e'
          have : j < d'.length := by rw [hl'.out]; exact hlt
          simp [pth, this]
          omega
        · have := hm.out j (by omega)
          rw [← this]
          simp [pth, show ¬ i = j by omega]
      case measure => simp [intOf]; omega
    · obtain rfl : i = n := by omega
      replace hl' := Lib.hid hl'
      replace hm := Lib.hid hm
      replace hk' := Lib.hid hk'
      go_wp2
      go_ret
      exact ⟨by rw [hk'.out]; rfl, d', hl'.out, fun j hj => hm.out j (by rw [← hl'.out]; exact hj), hh, hg⟩
set_option maxHeartbeats 1000000 in
theorem held_is (g n cap : Nat) (k : Int) (d : List (Int × Int)) (w : World) (hn : n ≤ 4194304) (hk0 : 0 ≤ k) (hk1 : k ≤ 100000000) (hl : d.length = n) (hM : Marked k d) (H : Held w g d) :
    Calls Tryd.prog 63 #[.slice (some ⟨g, 0, none⟩) n cap, .int .i64 k] w fun e w' => e = .returned (.int .i64 (k + 2 * n)) ∧ w = w' := by
  have HH := Lib.hid H
  have HMK := Lib.hid hM
  replace hl := Lib.hid hl
  clear H hM
  go_enter Tryd.func63, Tryd.ntmps63
  go_wp2_with fail
  go_loopw [1, 5] (fun kv iv wr => ∃ (i : Nat) (k' : Int), i ≤ n ∧ k + 2 * i = k' ∧ iv = .int .i64 i ∧ kv = .int .i64 k' ∧ w = wr) (fun _ i _ => n - (intOf i).toNat)
  case atStart => exact ⟨0, k, Nat.zero_le _, by omega, rfl, rfl, rfl⟩
  case round =>
    obtain ⟨i, k', hi, hk', rfl, rfl, rfl⟩ := hrel
    have hb : k' ≤ 200000000 := by omega
    have hb0 : 0 ≤ k' := by omega
    by_cases hlt : i < n
    · have hlt' : (i : Int) < (n : Int) := by omega
      have c0 := HH.out.at0 i (by rw [hl.out]; exact hlt)
      have c1 := HH.out.at1 i (by rw [hl.out]; exact hlt)
      rw [HMK.out i (by rw [hl.out]; exact hlt)] at c0 c1
      simp only [hk'] at c0 c1
      replace hk' := Lib.hid hk'
      go_wp2
      go_roundw
      case rel => exact ⟨i + 1, k' + 1 + 1, by omega, by have := hk'.out; omega, by go_num, rfl, trivial⟩
      case measure => simp [intOf]; omega
    · obtain rfl : i = n := by omega
      replace hk' := Lib.hid hk'
      go_wp2
      go_ret
      exact ⟨by rw [hk'.out]; rfl, rfl⟩
theorem mark_nil (k : Int) (w : World) : Calls Tryd.prog 62 #[.slice none 0 0, .int .i64 k] w fun e w' => e = .returned (.int .i64 k) ∧ w = w' := by
  go_enter Tryd.func62, Tryd.ntmps62
  go_wp2_with fail
  go_loopw [1, 5] (fun kv iv wr => iv = .int .i64 0 ∧ kv = .int .i64 k ∧ w = wr) (fun _ _ _ => 0)
  case atStart => exact ⟨rfl, rfl, rfl⟩
  case round =>
    obtain ⟨rfl, rfl, rfl⟩ := hrel
    go_wp2
    go_ret
    exact ⟨rfl, rfl⟩
theorem held_nil (k : Int) (w : World) : Calls Tryd.prog 63 #[.slice none 0 0, .int .i64 k] w fun e w' => e = .returned (.int .i64 k) ∧ w = w' := by
  go_enter Tryd.func63, Tryd.ntmps63
  go_wp2_with fail
  go_loopw [1, 5] (fun kv iv wr => iv = .int .i64 0 ∧ kv = .int .i64 k ∧ w = wr) (fun _ _ _ => 0)
  case atStart => exact ⟨rfl, rfl, rfl⟩
  case round =>
    obtain ⟨rfl, rfl, rfl⟩ := hrel
    go_wp2
    go_ret
    exact ⟨rfl, rfl⟩

end Go.Proofs.YtgjbebfcbpfngaaDoor
