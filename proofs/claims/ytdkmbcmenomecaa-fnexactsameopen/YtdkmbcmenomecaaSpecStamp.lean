/- What the functions of impl/l02_stamp.go answer at every stamp: contracts of each of them. -/
import Derived.Test.YtdkmbcmenomecaaBase
import Derived.Test.YtdkmbcmenomecaaStampBase
import Derived.Deep.QuietTactic
import Derived.BigQuiet
import Derived.Laws.MakeOwn
import Derived.BigRegion
namespace Go.Proofs.Ytdkmbcmenomecaa
open Go.RowKit

theorem twoAfter {w : World} {g : Nat} {t : TypeId} {v0 v1 : Value} (h : Box w g t #[v0, v1]) : (∀ p : After w, p.x.cell? ⟨g, 0, none⟩ = some v0) ∧ (∀ p : After w, p.x.cell? ⟨g, 1, none⟩ = some v1) :=
  ⟨After.cell h.lt (h.cell 0), After.cell h.lt (h.cell 1)⟩
theorem pairsAfter {w : World} {A : Option Addr} {n : Nat} {ps : List (Int × Int)} (h : Pairs w w.heap.size A n ps) (p : After w) : Pairs p.x p.x.heap.size A n ps := h.later p.bel

end Go.Proofs.Ytdkmbcmenomecaa

/- What the model's functions of spec/l02_stamp.go answer at every stamp: contracts of each of them. -/
namespace Go.Proofs.Ytdkmbcmenomecaa
open Go.RowKit

end Go.Proofs.Ytdkmbcmenomecaa

/- The laws' own copies of stamps and of lists of them, their size and the test that two are alike: contracts of each of them. -/
namespace Go.Proofs.Ytdkmbcmenomecaa
open Go.RowKit

theorem toStamp_any (c k : Int) (w : World) :
    Calls Try.prog 15 #[.agg #[.int .i64 c, .int .i64 k]] w fun e w' => e = .returned (.agg #[.int .i64 c, .int .i64 k]) ∧ Below w.heap.size w w' := by
  go_enter Try.func15, Try.ntmps15
  go_wp2
  exact bodyPost_ret (v := .agg #[.int .i64 c, .int .i64 k]) (by simp [results, Try.results15, go_sem]) rfl ⟨rfl, by
    first
    | exact bel_trans (bel_trans (bel_alloc _ _) (bel_alloc _ _)) (bel_alloc _ _)
    | exact (((((bel_trans (bel_trans (bel_alloc _ _) (bel_alloc _ _)) (bel_alloc _ _)).setCell (by simp) _).setCell (by simp) _).setCell (by simp) _).setCell (by simp) _)⟩

theorem eqStamp_same (c k : Int) (w : World) :
    Calls Try.prog 20 #[.agg #[.int .i64 c, .int .i64 k], .agg #[.int .i64 c, .int .i64 k]] w fun e w' => e = .returned (.bool true) ∧ Below w.heap.size w w' := by
  go_enter Try.func20, Try.ntmps20
  go_wp2
  go_ret
  exact ⟨rfl, bel_trans (bel_alloc _ _) (bel_alloc _ _)⟩

theorem Try.infoStamp : (Try.prog.info? 33).map (fun i => (i.zero, i.size, i.bytes)) = some (some (.agg #[.int .i64 0, .int .i64 0]), 2, 16) := by kernel_rfl

/-- n pairs of noughts are made. -/
theorem run_make_pairs {P : Program} (t e : TypeId) (ht : P.underlying t = some (.slice e)) (hinfo : (P.info? e).map (fun i => (i.zero, i.size, i.bytes)) = some (some (.agg #[.int .i64 0, .int .i64 0]), 2, 16))
    (n : Nat) (hn : n ≤ 1048576) (w : World) :
    (Instr.makeSlice t (.int .i64 (n : Int)) (.int .i64 (n : Int))).run P w = .ok (.slice (some ⟨w.heap.size, 0, none⟩) n n) (w.alloc (.cells (madeCells #[.int .i64 0, .int .i64 0] (n * 2)) e)) := by
  obtain ⟨i, hi, hzz⟩ := Option.map_eq_some_iff.1 hinfo
  simp only [Prod.mk.injEq] at hzz
  obtain ⟨hz, hs, hb⟩ := hzz
  have hr := run_make (P := P) w t e i _ ht hi hz .i64 .i64 n n (by omega) (Int.le_refl _) (by rw [hb]; omega) (by omega)
  simp only [Int.toNat_natCast, hs] at hr
  exact hr
theorem made_pairs (w : World) (n : Nat) (t : TypeId) : (w.alloc (.cells (madeCells #[.int .i64 0, .int .i64 0] (n * 2)) t)).rowIs w.heap.size t (n * 2) (fun _ => .int .i64 0) :=
  ⟨madeCells #[.int .i64 0, .int .i64 0] (n * 2), heap_alloc_new w _, size_madeCells _ _, fun i hi => by
    have h : i % 2 = 0 ∨ i % 2 = 1 := by omega
    rcases h with h | h <;> simp [madeCells, hi, h]⟩

/-- What a copy of n pairs leaves: a new row that holds them. -/
def MadePairs (w : World) (n : Nat) (ps : List (Int × Int)) (e : Ending) (w' : World) : Prop :=
  ∃ g, w.heap.size ≤ g ∧ e = .returned (.slice (some ⟨g, 0, none⟩) n n) ∧ Pairs w' w'.heap.size (some ⟨g, 0, none⟩) n ps ∧ Below w.heap.size w w'

/-- The first k pairs are copied. -/
def uptoP (ps : List (Int × Int)) (k j : Nat) : Value := if j < k * 2 then (if j % 2 = 0 then .int .i64 (pth ps (j / 2)).1 else .int .i64 (pth ps (j / 2)).2) else .int .i64 0
theorem uptoP_zero (ps : List (Int × Int)) (j : Nat) : uptoP ps 0 j = .int .i64 0 := by simp [uptoP]
theorem uptoP_succ {w : World} {b n k : Nat} {t : TypeId} {ps : List (Int × Int)} {x y : Int} (h : w.rowIs b t n (uptoP ps k)) (hx : pth ps k = (x, y)) :
    ((w.setCell ⟨b, k * 2, none⟩ (.int .i64 x)).setCell ⟨b, k * 2 + 1, none⟩ (.int .i64 y)).rowIs b t n (uptoP ps (k + 1)) :=
  ((h.set (k * 2) _).set (k * 2 + 1) _).congr fun i _ => by
    unfold uptoP
    by_cases e : i = k * 2 + 1
    · subst e
      have h1 : (k * 2 + 1) % 2 = 1 := by omega
      have h2 : (k * 2 + 1) / 2 = k := by omega
      have h3 : k * 2 + 1 < (k + 1) * 2 := by omega
      simp [h1, h2, h3, hx]
    · by_cases f : i = k * 2
      · subst f
        have h1 : (k * 2) % 2 = 0 := by omega
        have h2 : (k * 2) / 2 = k := by omega
        have h3 : k * 2 < (k + 1) * 2 := by omega
        simp [h2, h3, hx]
      · by_cases g : i < k * 2
        · simp [e, f, g, show i < (k + 1) * 2 by omega]
        · simp [e, f, g, show ¬ i < (k + 1) * 2 by omega]
theorem uptoP_all {w : World} {b n : Nat} {t : TypeId} {ps : List (Int × Int)} (h : w.rowIs b t (n * 2) (uptoP ps n)) (hl : ps.length = n) : Pairs w w.heap.size (some ⟨b, 0, none⟩) n ps := by
  refine ⟨hl, fun _ => ⟨b, 0, rfl, h.lt, fun i hi => ⟨?_, ?_⟩⟩⟩
  · have h1 : (i * 2) % 2 = 0 := by omega
    have h2 : (i * 2) / 2 = i := by omega
    rw [Nat.zero_add, h.cell (i := i * 2) (by omega)]
    simp [uptoP, h2, show i * 2 < n * 2 by omega]
  · have h1 : (i * 2 + 1) % 2 = 1 := by omega
    have h2 : (i * 2 + 1) / 2 = i := by omega
    rw [Nat.zero_add, h.cell (i := i * 2 + 1) (by omega)]
    simp [uptoP, h1, h2, show i * 2 + 1 < n * 2 by omega]

end Go.Proofs.Ytdkmbcmenomecaa

/- The library's stable sort over a slice of pairs, first part: what a slice of pairs holds, exchanging two of them, exchanging two ranges. -/
namespace Go.Proofs.Ytdkmbcmenomecaa
open Go.RowKit

/-- The block g holds these pairs, from its beginning. -/
structure Held (w : World) (g : Nat) (d : List (Int × Int)) : Prop where
  lt : g < w.heap.size
  fr : ∀ o, w.frozen? ⟨g, o, none⟩ = false
  at0 : ∀ i, i < d.length → w.cell? ⟨g, i * 2, none⟩ = some (.int .i64 (pth d i).1)
  at1 : ∀ i, i < d.length → w.cell? ⟨g, i * 2 + 1, none⟩ = some (.int .i64 (pth d i).2)
theorem Held.later {w w' : World} {g : Nat} {d : List (Int × Int)} (h : Held w g d) (hb : Below w.heap.size w w') : Held w' g d :=
  ⟨Nat.lt_of_lt_of_le h.lt hb.size, fun o => (hb.frozen (p := ⟨g, o, none⟩) h.lt).trans (h.fr o), fun i hi => (hb.cell (p := ⟨g, i * 2, none⟩) h.lt).trans (h.at0 i hi), fun i hi => (hb.cell (p := ⟨g, i * 2 + 1, none⟩) h.lt).trans (h.at1 i hi)⟩
theorem Held.drew {w : World} {g : Nat} {d : List (Int × Int)} (h : Held w g d) : Held w.drew g d := ⟨h.lt, h.fr, h.at0, h.at1⟩

theorem cell_set1 {w : World} {g i j : Nat} {u v : Value} (h : w.cell? ⟨g, i, none⟩ = some u) : (w.setCell ⟨g, j, none⟩ v).cell? ⟨g, i, none⟩ = some (if i = j then v else u) := by
  by_cases e : i = j
  · subst e
    rw [World.cell?_setCell_same _ _ _ h]
    simp
  · rw [World.cell?_setCell_other _ _ _ _ (fun e' => e (by injection e' with _ e'; exact e'.symm)), h]
    simp [e]

/-- One pair is written. -/
theorem Held.put {w : World} {g : Nat} {d : List (Int × Int)} (h : Held w g d) (i : Nat) (x : Int × Int) :
    Held ((w.setCell ⟨g, i * 2, none⟩ (.int .i64 x.1)).setCell ⟨g, i * 2 + 1, none⟩ (.int .i64 x.2)) g (d.set i x) := by
  refine ⟨by simp only [size_set]; exact h.lt, fun o => by simp [h.fr o], fun k hk => ?_, fun k hk => ?_⟩
  · rw [List.length_set] at hk
    rw [cell_set1 (cell_set1 (h.at0 k hk))]
    have e1 : ¬ k * 2 = i * 2 + 1 := by omega
    rw [if_neg e1]
    by_cases e : k = i
    · subst e; simp [pth, hk]
    · rw [if_neg (by omega)]; simp [pth, show ¬ i = k by omega]
  · rw [List.length_set] at hk
    rw [cell_set1 (cell_set1 (h.at1 k hk))]
    have e1 : ¬ k * 2 + 1 = i * 2 := by omega
    rw [if_neg e1]
    by_cases e : k = i
    · subst e; simp [pth, hk]
    · rw [if_neg (by omega)]; simp [pth, show ¬ i = k by omega]
/-- Two pairs are exchanged. -/
theorem Held.swap {w : World} {g : Nat} {d : List (Int × Int)} (h : Held w g d) (i j : Nat) {x y : Int × Int} (hx : pth d i = x) (hy : pth d j = y) :
    Held ((((w.setCell ⟨g, i * 2, none⟩ (.int .i64 y.1)).setCell ⟨g, i * 2 + 1, none⟩ (.int .i64 y.2)).setCell ⟨g, j * 2, none⟩ (.int .i64 x.1)).setCell ⟨g, j * 2 + 1, none⟩ (.int .i64 x.2)) g (swp d i j) := by
  subst hx hy
  exact (h.put i (pth d j)).put j (pth d i)
theorem grown_swap {a w : World} {g : Nat} (h : a.grownBy w (some g)) (i j k l : Nat) (p q r s : Value) :
    a.grownBy ((((w.setCell ⟨g, i, none⟩ p).setCell ⟨g, j, none⟩ q).setCell ⟨g, k, none⟩ r).setCell ⟨g, l, none⟩ s) (some g) :=
  grown_set (grown_set (grown_set (grown_set h _ _) _ _) _ _) _ _

theorem vint {a b : Int} (h : a = b) : Value.int .i64 a = Value.int .i64 b := by rw [h]
theorem take_more {l : List (Int × Int)} {k : Nat} {x : Int × Int} (h : l.drop k = x :: l.drop (k + 1)) : l.take (k + 1) = l.take k ++ [x] := by
  have hk : k < l.length := by
    rcases Nat.lt_or_ge k l.length with h' | h'
    · exact h'
    · rw [List.drop_of_length_le h'] at h; cases h
  rw [List.take_succ_eq_append_getElem hk]
  rw [List.drop_eq_getElem_cons hk] at h
  injection h with h1 _
  rw [h1]

/-- Nothing is answered; the block holds these now, and no other block is changed. -/
def Does (w : World) (g : Nat) (d : List (Int × Int)) (e : Ending) (w' : World) : Prop := e = .returned (.tuple #[]) ∧ Held w' g d ∧ w.grownBy w' (some g)

end Go.Proofs.Ytdkmbcmenomecaa

/- The laws' own copies of seals and of lists of them, their size, the test that two are alike, their marks: contracts of each of them. -/
namespace Go.Proofs.Ytdkmbcmenomecaa
open Go.RowKit

theorem toSealP_any (c k : Int) (w : World) :
    Calls Try.prog 23 #[.agg #[.int .i64 c, .int .i64 k]] w fun e w' => e = .returned (.agg #[.int .i64 c, .int .i64 k]) ∧ Below w.heap.size w w' := by
  go_enter Try.func23, Try.ntmps23
  go_wp2
  exact bodyPost_ret (v := .agg #[.int .i64 c, .int .i64 k]) (by simp [results, Try.results23, go_sem]) rfl ⟨rfl, by
    first
    | exact bel_trans (bel_trans (bel_alloc _ _) (bel_alloc _ _)) (bel_alloc _ _)
    | exact (((((bel_trans (bel_trans (bel_alloc _ _) (bel_alloc _ _)) (bel_alloc _ _)).setCell (by simp) _).setCell (by simp) _).setCell (by simp) _).setCell (by simp) _)⟩

theorem eqSealP_same (c k : Int) (w : World) :
    Calls Try.prog 26 #[.agg #[.int .i64 c, .int .i64 k], .agg #[.int .i64 c, .int .i64 k]] w fun e w' => e = .returned (.bool true) ∧ Below w.heap.size w w' := by
  go_enter Try.func26, Try.ntmps26
  go_wp2
  go_ret
  exact ⟨rfl, bel_trans (bel_alloc _ _) (bel_alloc _ _)⟩

theorem szSeals_le (A : Option Addr) (n cap : Nat) (L : Int) (w : World) (h1 : L ≤ 1048576) (hm : (n : Int) ≤ L) :
    Calls Try.prog 12 #[.slice A n cap, .int .i64 L] w fun e w' => e = .returned (.int .i64 (L - n)) ∧ w = w' := by
  have h : ¬ (L : Int) - n < 0 := by omega
  go_enter Try.func12, Try.ntmps12
  go_wp2
  go_ret
  exact ⟨rfl, rfl⟩
theorem szSeals_gt (A : Option Addr) (n cap : Nat) (L : Int) (w : World) (h0 : 0 ≤ L) (h1 : L ≤ 1048576) (hm : L < n) (hx : n ≤ maxLen) :
    Calls Try.prog 12 #[.slice A n cap, .int .i64 L] w fun e w' => e = .returned (.int .i64 (-1)) ∧ w = w' := by
  unfold maxLen at hx
  have h : (L : Int) - n < 0 := by omega
  go_enter Try.func12, Try.ntmps12
  go_wp2
  go_ret
  exact ⟨rfl, rfl⟩

theorem Try.infoSeal : (Try.prog.info? 59).map (fun i => (i.zero, i.size, i.bytes)) = some (some (.agg #[.int .i64 0, .int .i64 0]), 2, 16) := by kernel_rfl

/-- What a copy of n pairs leaves: a new block that holds them. -/
def MadeHeld (w : World) (n : Nat) (ps : List (Int × Int)) (e : Ending) (w' : World) : Prop :=
  ∃ g, w.heap.size ≤ g ∧ e = .returned (.slice (some ⟨g, 0, none⟩) n n) ∧ ps.length = n ∧ Held w' g ps ∧ Below w.heap.size w w'
theorem upto_held {w : World} {b n : Nat} {t : TypeId} {ps : List (Int × Int)} (h : w.rowIs b t (n * 2) (uptoP ps n)) (hl : ps.length = n) : Held w b ps := by
  have hp := uptoP_all h hl
  refine ⟨h.lt, fun o => h.frozen o, fun i hi => ?_, fun i hi => ?_⟩
  · obtain ⟨b', o, hA, _, hc⟩ := hp.2 (by omega)
    cases hA
    have := (hc i (by omega)).1
    rwa [Nat.zero_add] at this
  · obtain ⟨b', o, hA, _, hc⟩ := hp.2 (by omega)
    cases hA
    have := (hc i (by omega)).2
    rwa [Nat.zero_add] at this

set_option maxHeartbeats 400000 in
theorem toSeals_any (A : Option Addr) (n cap : Nat) (ps : List (Int × Int)) (w : World) (hm : n ≤ 1048576) (hr : Pairs w w.heap.size A n ps) :
    Calls Try.prog 16 #[.slice A n cap] w (MadeHeld w n ps) := by
  have hmk := fun W => run_make_pairs (P := Try.prog) 34 59 Try.underlying34 Try.infoSeal n hm W
  have HR := Lib.hid hr
  clear hr
  go_enter Try.func16, Try.ntmps16
  go_wp2_with fail
  go_loopw [4] (fun i wr => ∃ k : Nat, k ≤ n ∧ i = .int .i64 k ∧ wr.rowIs w.heap.size 59 (n * 2) (uptoP ps k) ∧ Below w.heap.size w wr) (fun i _ => n - (intOf i).toNat)
  case atStart => exact ⟨0, Nat.zero_le _, rfl, (made_pairs w n 59).congr (fun i _ => (uptoP_zero ps i).symm), bel_alloc _ _⟩
  case round =>
    obtain ⟨k, hk, rfl, hrow, hb⟩ := hrel
    clear hmk
    by_cases hlt : k < n
    · obtain ⟨b, o, hA, hbB, hcell⟩ := HR.out.2 (by omega)
      subst hA
      obtain ⟨g0, g1⟩ := hcell k hlt
      have g0 := (hb.cell (p := ⟨b, o + k * 2, none⟩) hbB).trans g0
      have g1 := (hb.cell (p := ⟨b, o + k * 2 + 1, none⟩) hbB).trans g1
      generalize hx : pth ps k = x at g0 g1
      obtain ⟨x, y⟩ := x
      have HX := Lib.hid hx
      clear hx hcell
      go_wp2_with fail
      refine (toSealP_any x y _).mono ?_
      rintro e w1 ⟨rfl, hb1⟩
      have hrow1 := hrow.of_block (hb1.block _ hrow.lt)
      have E1 := bel_trans hb hb1
      clear hrow hb g0 g1
      have c0 := hrow1.cell (i := k * 2) (by omega)
      have c1 := hrow1.cell (i := k * 2 + 1) (by omega)
      have fr := hrow1.frozen
      have HS := Lib.hid (uptoP_succ hrow1 HX.out)
      have HB := Lib.hid ((E1.setCell (p := ⟨w.heap.size, k * 2, none⟩) (Nat.le_refl _) (.int .i64 x)).setCell (p := ⟨w.heap.size, k * 2 + 1, none⟩) (Nat.le_refl _) (.int .i64 y))
      have hlt' : (k : Int) < (n : Int) := by omega
      go_wp2
      go_roundw
      case rel => exact ⟨k + 1, by omega, by go_num, HS.out, HB.out⟩
      case measure => simp [intOf]; omega
    · have hkn : k = n := by omega
      subst hkn
      have hz := HR.out.1
      go_wp2
      go_ret
      exact ⟨_, Nat.le_refl _, rfl, hz, upto_held hrow hz, hb⟩

set_option maxHeartbeats 400000 in
theorem eqSeals_same (A A' : Option Addr) (n cap cap' : Nat) (ps : List (Int × Int)) (w : World) (hm : n ≤ 1048576) (hr : Pairs w w.heap.size A n ps) (hr' : Pairs w w.heap.size A' n ps) :
    Calls Try.prog 21 #[.slice A n cap, .slice A' n cap'] w fun e w' => e = .returned (.bool true) ∧ Below w.heap.size w w' := by
  have HR := Lib.hid hr
  have HR' := Lib.hid hr'
  clear hr hr'
  go_enter Try.func21, Try.ntmps21
  go_wp2_with fail
  go_loopw [5] (fun i wr => ∃ k : Nat, k ≤ n ∧ i = .int .i64 k ∧ Below w.heap.size w wr) (fun i _ => n - (intOf i).toNat)
  case atStart => exact ⟨0, Nat.zero_le _, rfl, Below.refl _ _⟩
  case round =>
    obtain ⟨k, hk, rfl, hb⟩ := hrel
    by_cases hlt : k < n
    · obtain ⟨b, o, hA, hbB, hcell⟩ := HR.out.2 (by omega)
      obtain ⟨b', o', hA', hbB', hcell'⟩ := HR'.out.2 (by omega)
      subst hA hA'
      obtain ⟨g0, g1⟩ := hcell k hlt
      obtain ⟨h0, h1⟩ := hcell' k hlt
      have hz := hb.size
      have g0 := After.cell (w := wr) (a := ⟨b, o + k * 2, none⟩) (by simp; omega) ((hb.cell (p := ⟨b, o + k * 2, none⟩) hbB).trans g0)
      have g1 := After.cell (w := wr) (a := ⟨b, o + k * 2 + 1, none⟩) (by simp; omega) ((hb.cell (p := ⟨b, o + k * 2 + 1, none⟩) hbB).trans g1)
      have h0 := After.cell (w := wr) (a := ⟨b', o' + k * 2, none⟩) (by simp; omega) ((hb.cell (p := ⟨b', o' + k * 2, none⟩) hbB').trans h0)
      have h1 := After.cell (w := wr) (a := ⟨b', o' + k * 2 + 1, none⟩) (by simp; omega) ((hb.cell (p := ⟨b', o' + k * 2 + 1, none⟩) hbB').trans h1)
      generalize pth ps k = x at g0 g1 h0 h1
      obtain ⟨x, y⟩ := x
      have hlt' : (k : Int) < (n : Int) := by omega
      clear hcell hcell'
      go_wp2_with fail
      refine wp_region_after (by kernel_rfl) (by kernel_rfl) ?_
      repeat (first | go_big_quiet_step ((go_at_call 26; exact after_of (eqSealP_same x y _))) | quiet_step ((go_at_call 26; exact after_of (eqSealP_same x y _))))
      refine wpQuiet_nil ?_
      intro pw
      have E3 := bel_trans hb pw.bel
      go_wp2
      go_roundw
      case rel => exact ⟨k + 1, by omega, by go_num, E3⟩
      case measure => simp [intOf]; omega
    · go_wp2
      go_ret
      exact ⟨rfl, hb⟩

theorem Held.pairs {w : World} {g : Nat} {ps : List (Int × Int)} (h : Held w g ps) : Pairs w w.heap.size (some ⟨g, 0, none⟩) ps.length ps :=
  ⟨rfl, fun _ => ⟨g, 0, rfl, h.lt, fun i hi => ⟨by rw [Nat.zero_add]; exact h.at0 i hi, by rw [Nat.zero_add]; exact h.at1 i hi⟩⟩⟩

/-- Marked from k on. -/
def Marked (k : Int) (d : List (Int × Int)) : Prop := ∀ j, j < d.length → pth d j = (k + 2 * j, k + 2 * j + 1)

end Go.Proofs.Ytdkmbcmenomecaa
