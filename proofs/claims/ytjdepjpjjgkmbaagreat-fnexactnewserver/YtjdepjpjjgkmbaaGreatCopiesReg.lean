/- The laws' own copies of opens and shelves, their size, the test that two are alike, their marks: contracts of each of them. -/
import Derived.Test.YtjdepjpjjgkmbaaGreatRegBase
namespace Go.Proofs.YtjdepjpjjgkmbaaGreat
open Go.RowKit

set_option maxHeartbeats 400000 in
theorem toOpen_any (a b c d : Int) (w : World) :
    Calls Tryz.prog 154 #[.agg #[.int .i64 a, .int .i64 b, .int .i64 c, .int .i64 d]] w fun e w' => e = .returned (.agg #[.int .i64 a, .int .i64 b, .int .i64 c, .int .i64 d]) ∧ Below w.heap.size w w' := by
  have D := ((Box.new w 197 #[.int .i64 a, .int .i64 b, .int .i64 c, .int .i64 d]).alloc (.cells #[.int .i64 0, .int .i64 0, .int .i64 0, .int .i64 0] 97)).alloc (.cells #[.int .i64 a, .int .i64 0, .int .i64 0, .int .i64 0] 97)
  have X := (Box.new (w.alloc (.cells #[.int .i64 a, .int .i64 b, .int .i64 c, .int .i64 d] 197)) 97 #[.int .i64 0, .int .i64 0, .int .i64 0, .int .i64 0]).alloc (.cells #[.int .i64 a, .int .i64 0, .int .i64 0, .int .i64 0] 97)
  have Y := Box.new ((w.alloc (.cells #[.int .i64 a, .int .i64 b, .int .i64 c, .int .i64 d] 197)).alloc (.cells #[.int .i64 0, .int .i64 0, .int .i64 0, .int .i64 0] 97)) 97 #[.int .i64 a, .int .i64 0, .int .i64 0, .int .i64 0]
  have hb0 := bel_trans (bel_trans (bel_alloc w (.cells #[.int .i64 a, .int .i64 b, .int .i64 c, .int .i64 d] 197)) (bel_alloc _ (.cells #[.int .i64 0, .int .i64 0, .int .i64 0, .int .i64 0] 97))) (bel_alloc _ (.cells #[.int .i64 a, .int .i64 0, .int .i64 0, .int .i64 0] 97))
  simp only [World.size_alloc] at X Y
  go_enter Tryz.func154, Tryz.ntmps154
  go_wp2_with fail
  generalize (((w.alloc _).alloc _).alloc _ : World) = w0 at hb0 D X Y ⊢
  refine (toStamp_any b c w0).mono ?_
  rintro e w1 ⟨rfl, hb1⟩
  have D1 := D.later hb1 D.lt
  have X1 := X.later hb1 X.lt
  have Y1 := Y.later hb1 Y.lt
  have E1 := bel_trans hb0 hb1
  clear D X Y hb0 hb1
  obtain ⟨d0, d1, d2, d3⟩ := D1.four
  obtain ⟨x0, x1, x2, x3⟩ := X1.four
  obtain ⟨y0, y1, y2, y3⟩ := Y1.four
  have fx := X1.frozen
  have fy := Y1.frozen
  go_wp2
  exact bodyPost_ret (v := .agg #[.int .i64 a, .int .i64 b, .int .i64 c, .int .i64 d]) (by simp [results, Tryz.results154, go_sem, x0, x1, x2, x3]) rfl ⟨rfl, by
    repeat (first | (with_reducible exact E1) | refine Below.setCell ?_ (by simp; try omega) _)⟩

set_option maxHeartbeats 400000 in
theorem eqOpen_same (a b c d : Int) (w : World) :
    Calls Tryz.prog 159 #[.agg #[.int .i64 a, .int .i64 b, .int .i64 c, .int .i64 d], .agg #[.int .i64 a, .int .i64 b, .int .i64 c, .int .i64 d]] w fun e w' => e = .returned (.bool true) ∧ Below w.heap.size w w' := by
  have D := (Box.new w 97 #[.int .i64 a, .int .i64 b, .int .i64 c, .int .i64 d]).alloc (.cells #[.int .i64 a, .int .i64 b, .int .i64 c, .int .i64 d] 97)
  have X := Box.new (w.alloc (.cells #[.int .i64 a, .int .i64 b, .int .i64 c, .int .i64 d] 97)) 97 #[.int .i64 a, .int .i64 b, .int .i64 c, .int .i64 d]
  have hb0 := bel_trans (bel_alloc w (.cells #[.int .i64 a, .int .i64 b, .int .i64 c, .int .i64 d] 97)) (bel_alloc _ (.cells #[.int .i64 a, .int .i64 b, .int .i64 c, .int .i64 d] 97))
  simp only [World.size_alloc] at X
  go_enter Tryz.func159, Tryz.ntmps159
  go_wp2_with fail
  generalize ((w.alloc _).alloc _ : World) = w0 at hb0 D X ⊢
  refine (eqStamp_same b c w0).mono ?_
  rintro e w1 ⟨rfl, hb1⟩
  have D1 := D.later hb1 D.lt
  have X1 := X.later hb1 X.lt
  have E1 := bel_trans hb0 hb1
  clear D X hb0 hb1
  obtain ⟨d0, d1, d2, d3⟩ := D1.four
  obtain ⟨x0, x1, x2, x3⟩ := X1.four
  go_wp2
  go_ret
  exact ⟨rfl, E1⟩

theorem szOpens_le (A : Option Addr) (n cap : Nat) (L : Int) (w : World) (h1 : L ≤ 1048576) (hm : (n : Int) ≤ L) :
    Calls Tryz.prog 94 #[.slice A n cap, .int .i64 L] w fun e w' => e = .returned (.int .i64 (L - n)) ∧ w = w' := by
  have h : ¬ (L : Int) - n < 0 := by omega
  go_enter Tryz.func94, Tryz.ntmps94
  go_wp2
  go_ret
  exact ⟨rfl, rfl⟩
theorem szOpens_gt (A : Option Addr) (n cap : Nat) (L : Int) (w : World) (h0 : 0 ≤ L) (h1 : L ≤ 1048576) (hm : L < n) (hx : n ≤ maxLen) :
    Calls Tryz.prog 94 #[.slice A n cap, .int .i64 L] w fun e w' => e = .returned (.int .i64 (-1)) ∧ w = w' := by
  unfold maxLen at hx
  have h : (L : Int) - n < 0 := by omega
  go_enter Tryz.func94, Tryz.ntmps94
  go_wp2
  go_ret
  exact ⟨rfl, rfl⟩

theorem szReg_le (rt rq rv : Int) (P : Option Addr) (p pc : Nat) (Q : Option Addr) (q qc : Nat) (L : Int) (w : World) (h1 : L ≤ 1048576) (hm : (p : Int) + q ≤ L) :
    Calls Tryz.prog 42 #[.agg #[.int .i64 rt, .int .i64 rq, .int .i64 rv, .slice P p pc, .slice Q q qc], .int .i64 L] w fun e w' => e = .returned (.int .i64 (L - p - q)) ∧ Below w.heap.size w w' := by
  have hn1 : ¬ (L : Int) - p < 0 := by omega
  have hn2 : ¬ (L : Int) - p - q < 0 := by omega
  have hb0 := bel_alloc w (.cells #[.int .i64 rt, .int .i64 rq, .int .i64 rv, .slice P p pc, .slice Q q qc] 73)
  go_enter Tryz.func42, Tryz.ntmps42
  go_wp2_with (first
    | (go_at_call 30; refine (szSeals_le P p pc L _ h1 (by omega)).mono ?_; rintro e w1 ⟨rfl, rfl⟩)
    | (go_at_call 94; refine (szOpens_le Q q qc (L - p) _ (by omega) (by omega)).mono ?_; rintro e w1 ⟨rfl, rfl⟩))
  go_ret
  exact ⟨rfl, hb0⟩
theorem szReg_gt (rt rq rv : Int) (P : Option Addr) (p pc : Nat) (Q : Option Addr) (q qc : Nat) (L : Int) (w : World) (h0 : 0 ≤ L) (h1 : L ≤ 1048576) (hm : L < (p : Int) + q) (hx : p ≤ maxLen) (hy : q ≤ maxLen) :
    Calls Tryz.prog 42 #[.agg #[.int .i64 rt, .int .i64 rq, .int .i64 rv, .slice P p pc, .slice Q q qc], .int .i64 L] w fun e w' => e = .returned (.int .i64 (-1)) ∧ Below w.heap.size w w' := by
  have hb0 := bel_alloc w (.cells #[.int .i64 rt, .int .i64 rq, .int .i64 rv, .slice P p pc, .slice Q q qc] 73)
  have HX := Lib.hid hx
  have HY := Lib.hid hy
  clear hx hy
  by_cases hp : L < (p : Int)
  · go_enter Tryz.func42, Tryz.ntmps42
    go_wp2_with (go_at_call 30; refine (szSeals_gt P p pc L _ h0 h1 hp HX.out).mono ?_; rintro e w1 ⟨rfl, rfl⟩)
    go_ret
    exact ⟨rfl, hb0⟩
  · have hn1 : ¬ (L : Int) - p < 0 := by omega
    go_enter Tryz.func42, Tryz.ntmps42
    go_wp2_with (first
      | (go_at_call 30; refine (szSeals_le P p pc L _ h1 (by omega)).mono ?_; rintro e w1 ⟨rfl, rfl⟩)
      | (go_at_call 94; refine (szOpens_gt Q q qc (L - p) _ (by omega) (by omega) (by omega) HY.out).mono ?_; rintro e w1 ⟨rfl, rfl⟩))
    go_ret
    exact ⟨rfl, hb0⟩

theorem Tryz.infoOpen : (Tryz.prog.info? 97).map (fun i => (i.zero, i.size, i.bytes)) = some (some (.agg #[.int .i64 0, .int .i64 0, .int .i64 0, .int .i64 0]), 4, 32) := by kernel_rfl

theorem run_make_quads {P : Program} (t e : TypeId) (ht : P.underlying t = some (.slice e)) (hinfo : (P.info? e).map (fun i => (i.zero, i.size, i.bytes)) = some (some (.agg #[.int .i64 0, .int .i64 0, .int .i64 0, .int .i64 0]), 4, 32))
    (n : Nat) (hn : n ≤ 1048576) (w : World) :
    (Instr.makeSlice t (.int .i64 (n : Int)) (.int .i64 (n : Int))).run P w = .ok (.slice (some ⟨w.heap.size, 0, none⟩) n n) (w.alloc (.cells (madeCells #[.int .i64 0, .int .i64 0, .int .i64 0, .int .i64 0] (n * 4)) e)) := by
  obtain ⟨i, hi, hzz⟩ := Option.map_eq_some_iff.1 hinfo
  simp only [Prod.mk.injEq] at hzz
  obtain ⟨hz, hs, hb⟩ := hzz
  have hr := run_make (P := P) w t e i _ ht hi hz .i64 .i64 n n (by omega) (Int.le_refl _) (by rw [hb]; omega) (by omega)
  simp only [Int.toNat_natCast, hs] at hr
  exact hr
theorem made_quads (w : World) (n : Nat) (t : TypeId) : (w.alloc (.cells (madeCells #[.int .i64 0, .int .i64 0, .int .i64 0, .int .i64 0] (n * 4)) t)).rowIs w.heap.size t (n * 4) (fun _ => .int .i64 0) :=
  ⟨madeCells #[.int .i64 0, .int .i64 0, .int .i64 0, .int .i64 0] (n * 4), heap_alloc_new w _, size_madeCells _ _, fun i hi => by
    have h : i % 4 = 0 ∨ i % 4 = 1 ∨ i % 4 = 2 ∨ i % 4 = 3 := by omega
    rcases h with h | h | h | h <;> simp [madeCells, hi, h]⟩

/-- What a copy of n opens leaves: a new block that holds them. -/
def MadeHeldQ (w : World) (n : Nat) (os : List Opn) (e : Ending) (w' : World) : Prop :=
  ∃ g, w.heap.size ≤ g ∧ e = .returned (.slice (some ⟨g, 0, none⟩) n n) ∧ os.length = n ∧ HeldQ w' g os ∧ Below w.heap.size w w'

/-- One of the four numbers of an open. -/
def pickO (o : Opn) (j : Nat) : Int := if j = 0 then o.1 else if j = 1 then o.2.1 else if j = 2 then o.2.2.1 else o.2.2.2
/-- The first k opens are copied. -/
def uptoQ (os : List Opn) (k j : Nat) : Value := if j < k * 4 then .int .i64 (pickO (oth os (j / 4)) (j % 4)) else .int .i64 0
theorem uptoQ_zero (os : List Opn) (j : Nat) : uptoQ os 0 j = .int .i64 0 := by simp [uptoQ]
theorem uptoQ_succ {w : World} {b n k : Nat} {t : TypeId} {os : List Opn} {x y z u : Int} (h : w.rowIs b t n (uptoQ os k)) (hx : oth os k = (x, y, z, u)) :
    ((((w.setCell ⟨b, k * 4, none⟩ (.int .i64 x)).setCell ⟨b, k * 4 + 1, none⟩ (.int .i64 y)).setCell ⟨b, k * 4 + 2, none⟩ (.int .i64 z)).setCell ⟨b, k * 4 + 3, none⟩ (.int .i64 u)).rowIs b t n (uptoQ os (k + 1)) :=
  ((((h.set (k * 4) _).set (k * 4 + 1) _).set (k * 4 + 2) _).set (k * 4 + 3) _).congr fun i _ => by
    unfold uptoQ
    by_cases e3 : i = k * 4 + 3
    · subst e3
      rw [if_pos rfl, if_pos (by omega), show (k * 4 + 3) / 4 = k by omega, show (k * 4 + 3) % 4 = 3 by omega, hx]; rfl
    rw [if_neg e3]
    by_cases e2 : i = k * 4 + 2
    · subst e2
      rw [if_pos rfl, if_pos (by omega), show (k * 4 + 2) / 4 = k by omega, show (k * 4 + 2) % 4 = 2 by omega, hx]; rfl
    rw [if_neg e2]
    by_cases e1 : i = k * 4 + 1
    · subst e1
      rw [if_pos rfl, if_pos (by omega), show (k * 4 + 1) / 4 = k by omega, show (k * 4 + 1) % 4 = 1 by omega, hx]; rfl
    rw [if_neg e1]
    by_cases e0 : i = k * 4
    · subst e0
      rw [if_pos rfl, if_pos (by omega), show (k * 4) / 4 = k by omega, show (k * 4) % 4 = 0 by omega, hx]; rfl
    rw [if_neg e0]
    by_cases g : i < k * 4
    · rw [if_pos g, if_pos (by omega)]
    · rw [if_neg g, if_neg (by omega)]
theorem upto_heldQ {w : World} {b n : Nat} {t : TypeId} {os : List Opn} (h : w.rowIs b t (n * 4) (uptoQ os n)) (hl : os.length = n) : HeldQ w b os := by
  refine ⟨h.lt, fun o => h.frozen o, fun i hi => ?_⟩
  rw [hl] at hi
  refine ⟨?_, ?_, ?_, ?_⟩
  · rw [h.cell (i := i * 4) (by omega)]; unfold uptoQ; rw [if_pos (by omega), show i * 4 / 4 = i by omega, show i * 4 % 4 = 0 by omega]; rfl
  · rw [h.cell (i := i * 4 + 1) (by omega)]; unfold uptoQ; rw [if_pos (by omega), show (i * 4 + 1) / 4 = i by omega, show (i * 4 + 1) % 4 = 1 by omega]; rfl
  · rw [h.cell (i := i * 4 + 2) (by omega)]; unfold uptoQ; rw [if_pos (by omega), show (i * 4 + 2) / 4 = i by omega, show (i * 4 + 2) % 4 = 2 by omega]; rfl
  · rw [h.cell (i := i * 4 + 3) (by omega)]; unfold uptoQ; rw [if_pos (by omega), show (i * 4 + 3) / 4 = i by omega, show (i * 4 + 3) % 4 = 3 by omega]; rfl

set_option maxHeartbeats 1000000 in
theorem toOpens_any (A : Option Addr) (n cap : Nat) (os : List Opn) (w : World) (hm : n ≤ 1048576) (hr : Quads w w.heap.size A n os) :
    Calls Tryz.prog 99 #[.slice A n cap] w (MadeHeldQ w n os) := by
  have hmk := fun W => run_make_quads (P := Tryz.prog) 78 97 Tryz.underlying78 Tryz.infoOpen n hm W
  have HR := Lib.hid hr
  clear hr
  go_enter Tryz.func99, Tryz.ntmps99
  go_wp2_with fail
  go_loopw [4] (fun i wr => ∃ k : Nat, k ≤ n ∧ i = .int .i64 k ∧ wr.rowIs w.heap.size 97 (n * 4) (uptoQ os k) ∧ Below w.heap.size w wr) (fun i _ => n - (intOf i).toNat)
  case atStart => exact ⟨0, Nat.zero_le _, rfl, (made_quads w n 97).congr (fun i _ => (uptoQ_zero os i).symm), bel_alloc _ _⟩
  case round =>
    obtain ⟨k, hk, rfl, hrow, hb⟩ := hrel
    clear hmk
    by_cases hlt : k < n
    · obtain ⟨b, o, hA, hbB, hcell⟩ := HR.out.2 (by omega)
      subst hA
      obtain ⟨g0, g1, g2, g3⟩ := hcell k hlt
      have g0 := (hb.cell (p := ⟨b, o + k * 4, none⟩) hbB).trans g0
      have g1 := (hb.cell (p := ⟨b, o + k * 4 + 1, none⟩) hbB).trans g1
      have g2 := (hb.cell (p := ⟨b, o + k * 4 + 2, none⟩) hbB).trans g2
      have g3 := (hb.cell (p := ⟨b, o + k * 4 + 3, none⟩) hbB).trans g3
      generalize hx : oth os k = x at g0 g1 g2 g3
      obtain ⟨x, y, z, u⟩ := x
      have HX := Lib.hid hx
      clear hx hcell
      go_wp2_with fail
      refine (toOpen_any x y z u _).mono ?_
      rintro e w1 ⟨rfl, hb1⟩
      have hrow1 := hrow.of_block (hb1.block _ hrow.lt)
      have E1 := bel_trans hb hb1
      clear hrow hb g0 g1 g2 g3
      have c0 := hrow1.cell (i := k * 4) (by omega)
      have c1 := hrow1.cell (i := k * 4 + 1) (by omega)
      have c2 := hrow1.cell (i := k * 4 + 2) (by omega)
      have c3 := hrow1.cell (i := k * 4 + 3) (by omega)
      have fr := hrow1.frozen
      have HS := Lib.hid (uptoQ_succ hrow1 HX.out)
      have HB := Lib.hid ((((E1.setCell (p := ⟨w.heap.size, k * 4, none⟩) (Nat.le_refl _) (.int .i64 x)).setCell (p := ⟨w.heap.size, k * 4 + 1, none⟩) (Nat.le_refl _) (.int .i64 y)).setCell (p := ⟨w.heap.size, k * 4 + 2, none⟩) (Nat.le_refl _) (.int .i64 z)).setCell (p := ⟨w.heap.size, k * 4 + 3, none⟩) (Nat.le_refl _) (.int .i64 u))
      have hlt' : (k : Int) < (n : Int) := by omega
      go_wp2
      go_roundw
      case rel => exact ⟨k + 1, by omega, by go_num, HS.out, HB.out⟩
      case measure => simp [intOf]; omega
    · have hkn : k = n := by omega
      subst hkn
      have hz := HR.out.1
      go_wp2
      go_ret
      exact ⟨_, Nat.le_refl _, rfl, hz, upto_heldQ hrow hz, hb⟩

set_option maxHeartbeats 1000000 in
theorem eqOpens_same (A A' : Option Addr) (n cap cap' : Nat) (os : List Opn) (w : World) (hm : n ≤ 1048577) (hr : Quads w w.heap.size A n os) (hr' : Quads w w.heap.size A' n os) :
    Calls Tryz.prog 105 #[.slice A n cap, .slice A' n cap'] w fun e w' => e = .returned (.bool true) ∧ Below w.heap.size w w' := by
  have HR := Lib.hid hr
  have HR' := Lib.hid hr'
  clear hr hr'
  go_enter Tryz.func105, Tryz.ntmps105
  go_wp2_with fail
  go_loopw [5] (fun i wr => ∃ k : Nat, k ≤ n ∧ i = .int .i64 k ∧ Below w.heap.size w wr) (fun i _ => n - (intOf i).toNat)
  case atStart => exact ⟨0, Nat.zero_le _, rfl, Below.refl _ _⟩
  case round =>
    obtain ⟨k, hk, rfl, hb⟩ := hrel
    by_cases hlt : k < n
    · obtain ⟨b, o, hA, hbB, hcell⟩ := HR.out.2 (by omega)
      obtain ⟨b', o', hA', hbB', hcell'⟩ := HR'.out.2 (by omega)
      subst hA hA'
      obtain ⟨g0, g1, g2, g3⟩ := hcell k hlt
      obtain ⟨h0, h1, h2, h3⟩ := hcell' k hlt
      have hz := hb.size
      have g0 := After.cell (w := wr) (a := ⟨b, o + k * 4, none⟩) (by simp; omega) ((hb.cell (p := ⟨b, o + k * 4, none⟩) hbB).trans g0)
      have g1 := After.cell (w := wr) (a := ⟨b, o + k * 4 + 1, none⟩) (by simp; omega) ((hb.cell (p := ⟨b, o + k * 4 + 1, none⟩) hbB).trans g1)
      have g2 := After.cell (w := wr) (a := ⟨b, o + k * 4 + 2, none⟩) (by simp; omega) ((hb.cell (p := ⟨b, o + k * 4 + 2, none⟩) hbB).trans g2)
      have g3 := After.cell (w := wr) (a := ⟨b, o + k * 4 + 3, none⟩) (by simp; omega) ((hb.cell (p := ⟨b, o + k * 4 + 3, none⟩) hbB).trans g3)
      have h0 := After.cell (w := wr) (a := ⟨b', o' + k * 4, none⟩) (by simp; omega) ((hb.cell (p := ⟨b', o' + k * 4, none⟩) hbB').trans h0)
      have h1 := After.cell (w := wr) (a := ⟨b', o' + k * 4 + 1, none⟩) (by simp; omega) ((hb.cell (p := ⟨b', o' + k * 4 + 1, none⟩) hbB').trans h1)
      have h2 := After.cell (w := wr) (a := ⟨b', o' + k * 4 + 2, none⟩) (by simp; omega) ((hb.cell (p := ⟨b', o' + k * 4 + 2, none⟩) hbB').trans h2)
      have h3 := After.cell (w := wr) (a := ⟨b', o' + k * 4 + 3, none⟩) (by simp; omega) ((hb.cell (p := ⟨b', o' + k * 4 + 3, none⟩) hbB').trans h3)
      generalize oth os k = x at g0 g1 g2 g3 h0 h1 h2 h3
      obtain ⟨x, y, z, u⟩ := x
      have hlt' : (k : Int) < (n : Int) := by omega
      clear hcell hcell'
      go_wp2_with fail
      refine wp_region_after (by kernel_rfl) (by kernel_rfl) ?_
      repeat (first | go_big_quiet_step ((go_at_call 159; exact after_of (eqOpen_same x y z u _))) | quiet_step ((go_at_call 159; exact after_of (eqOpen_same x y z u _))))
      refine wpQuiet_nil ?_
      intro pw
      have E3 := bel_trans hb pw.bel
      go_wp2
      go_roundw
      case rel => exact ⟨k + 1, by omega, by go_num, E3⟩
      case measure => simp [intOf]; omega
    · go_wp2
      go_ret
      exact ⟨rfl, hb⟩

set_option maxHeartbeats 1000000 in
theorem eqReg_same (rt rq rv : Int) (P P' : Option Addr) (p pc pc' : Nat) (Q Q' : Option Addr) (q qc qc' : Nat) (ps : List (Int × Int)) (os : List Opn) (w : World) (hp : p ≤ 1048576) (hq : q ≤ 1048577)
    (h1 : Pairs w w.heap.size P p ps) (h2 : Pairs w w.heap.size P' p ps) (h3 : Quads w w.heap.size Q q os) (h4 : Quads w w.heap.size Q' q os) :
    Calls Tryz.prog 48 #[.agg #[.int .i64 rt, .int .i64 rq, .int .i64 rv, .slice P p pc, .slice Q q qc], .agg #[.int .i64 rt, .int .i64 rq, .int .i64 rv, .slice P' p pc', .slice Q' q qc']] w fun e w' => e = .returned (.bool true) ∧ Below w.heap.size w w' := by
  have D := (Box.new w 80 #[.int .i64 rt, .int .i64 rq, .int .i64 rv, .slice P p pc, .slice Q q qc]).alloc (.cells #[.int .i64 rt, .int .i64 rq, .int .i64 rv, .slice P' p pc', .slice Q' q qc'] 80)
  have X := Box.new (w.alloc (.cells #[.int .i64 rt, .int .i64 rq, .int .i64 rv, .slice P p pc, .slice Q q qc] 80)) 80 #[.int .i64 rt, .int .i64 rq, .int .i64 rv, .slice P' p pc', .slice Q' q qc']
  have hb0 := bel_trans (bel_alloc w (.cells #[.int .i64 rt, .int .i64 rq, .int .i64 rv, .slice P p pc, .slice Q q qc] 80)) (bel_alloc _ (.cells #[.int .i64 rt, .int .i64 rq, .int .i64 rv, .slice P' p pc', .slice Q' q qc'] 80))
  simp only [World.size_alloc] at X
  have H1 := Lib.hid (h1.later hb0)
  have H2 := Lib.hid (h2.later hb0)
  have H3 := Lib.hid (h3.later hb0)
  have H4 := Lib.hid (h4.later hb0)
  clear h1 h2 h3 h4
  go_enter Tryz.func48, Tryz.ntmps48
  go_wp2_with fail
  generalize ((w.alloc _).alloc _ : World) = w0 at hb0 D X H1 H2 H3 H4 ⊢
  refine (eqStamp_same rt rq w0).mono ?_
  rintro e w1 ⟨rfl, hb1⟩
  have D1 := D.later hb1 D.lt
  have X1 := X.later hb1 X.lt
  have E1 := bel_trans hb0 hb1
  replace H1 := Lib.hid (H1.out.later hb1)
  replace H2 := Lib.hid (H2.out.later hb1)
  replace H3 := Lib.hid (H3.out.later hb1)
  replace H4 := Lib.hid (H4.out.later hb1)
  clear D X hb0 hb1
  obtain ⟨d0, d1, d2, d3, d4⟩ := D1.five
  obtain ⟨x0, x1, x2, x3, x4⟩ := X1.five
  go_wp2_with fail
  refine (eqSeals_same P P' p pc pc' ps w1 hp H1.out H2.out).mono ?_
  rintro e w2 ⟨rfl, hb2⟩
  have D2 := D1.later hb2 D1.lt
  have X2 := X1.later hb2 X1.lt
  have E2 := bel_trans E1 hb2
  replace H3 := Lib.hid (H3.out.later hb2)
  replace H4 := Lib.hid (H4.out.later hb2)
  clear D1 X1 E1 hb2 H1 H2 d0 d1 d2 d3 d4 x0 x1 x2 x3 x4
  obtain ⟨d0, d1, d2, d3, d4⟩ := D2.five
  obtain ⟨x0, x1, x2, x3, x4⟩ := X2.five
  go_wp2_with fail
  refine (eqOpens_same Q Q' q qc qc' os w2 hq H3.out H4.out).mono ?_
  rintro e w3 ⟨rfl, hb3⟩
  have E3 := bel_trans E2 hb3
  go_wp2
  go_ret
  exact ⟨rfl, E3⟩

/-- What a copy of a shelf leaves: two new blocks that hold its lists. -/
def MadeReg (w : World) (rt rq rv : Int) (p q : Nat) (ps : List (Int × Int)) (os : List Opn) (e : Ending) (w' : World) : Prop :=
  ∃ g h, w.heap.size ≤ g ∧ g < h ∧ e = .returned (.agg #[.int .i64 rt, .int .i64 rq, .int .i64 rv, .slice (some ⟨g, 0, none⟩) p p, .slice (some ⟨h, 0, none⟩) q q]) ∧ Held w' g ps ∧ HeldQ w' h os ∧ Below w.heap.size w w'

theorem HeldK.far {w : World} {g : Nat} {d : List (Int × Int)} (h : Held w g d) {b : Nat} (hb : b ≠ g) (o : Nat) (v : Value) : Held (w.setCell ⟨b, o, none⟩ v) g d :=
  ⟨by rw [size_set]; exact h.lt, fun j => by simp [h.fr j], fun i hi => by rw [World.cell?_setCell_other _ _ _ _ (fun e => hb (by injection e))]; exact h.at0 i hi, fun i hi => by rw [World.cell?_setCell_other _ _ _ _ (fun e => hb (by injection e))]; exact h.at1 i hi⟩
theorem HeldQ.far {w : World} {g : Nat} {d : List Opn} (h : HeldQ w g d) {b : Nat} (hb : b ≠ g) (o : Nat) (v : Value) : HeldQ (w.setCell ⟨b, o, none⟩ v) g d :=
  h.keep (by rw [size_set]; exact h.lt) (fun j => by simp) (fun j => World.cell?_setCell_other _ _ _ _ (fun e => hb (by injection e)))

set_option maxHeartbeats 2000000 in
theorem toReg_any (rt rq rv : Int) (P : Option Addr) (p pc : Nat) (Q : Option Addr) (q qc : Nat) (ps : List (Int × Int)) (os : List Opn) (w : World) (hp : p ≤ 1048576) (hq : q ≤ 1048576) (h1 : Pairs w w.heap.size P p ps) (h3 : Quads w w.heap.size Q q os) :
    Calls Tryz.prog 45 #[.agg #[.int .i64 rt, .int .i64 rq, .int .i64 rv, .slice P p pc, .slice Q q qc]] w (MadeReg w rt rq rv p q ps os) := by
  have D := ((Box.new w 73 #[.int .i64 rt, .int .i64 rq, .int .i64 rv, .slice P p pc, .slice Q q qc]).alloc (.cells #[.int .i64 0, .int .i64 0, .int .i64 0, .slice none 0 0, .slice none 0 0] 80)).alloc (.cells #[.int .i64 0, .int .i64 0, .int .i64 0, .slice none 0 0, .slice none 0 0] 80)
  have X := (Box.new (w.alloc (.cells #[.int .i64 rt, .int .i64 rq, .int .i64 rv, .slice P p pc, .slice Q q qc] 73)) 80 #[.int .i64 0, .int .i64 0, .int .i64 0, .slice none 0 0, .slice none 0 0]).alloc (.cells #[.int .i64 0, .int .i64 0, .int .i64 0, .slice none 0 0, .slice none 0 0] 80)
  have Y := Box.new ((w.alloc (.cells #[.int .i64 rt, .int .i64 rq, .int .i64 rv, .slice P p pc, .slice Q q qc] 73)).alloc (.cells #[.int .i64 0, .int .i64 0, .int .i64 0, .slice none 0 0, .slice none 0 0] 80)) 80 #[.int .i64 0, .int .i64 0, .int .i64 0, .slice none 0 0, .slice none 0 0]
  have hb0 := bel_trans (bel_trans (bel_alloc w (.cells #[.int .i64 rt, .int .i64 rq, .int .i64 rv, .slice P p pc, .slice Q q qc] 73)) (bel_alloc _ (.cells #[.int .i64 0, .int .i64 0, .int .i64 0, .slice none 0 0, .slice none 0 0] 80))) (bel_alloc _ (.cells #[.int .i64 0, .int .i64 0, .int .i64 0, .slice none 0 0, .slice none 0 0] 80))
  simp only [World.size_alloc] at X Y
  have H1 := Lib.hid h1
  have H3 := Lib.hid h3
  clear h1 h3
  go_enter Tryz.func45, Tryz.ntmps45
  go_wp2_with fail
  generalize (((w.alloc _).alloc _).alloc _ : World) = w0 at hb0 D X Y ⊢
  refine (toStamp_any rt rq w0).mono ?_
  rintro e w1 ⟨rfl, hb1⟩
  have D1 := D.later hb1 D.lt
  have X1 := X.later hb1 X.lt
  have Y1 := Y.later hb1 Y.lt
  have E1 := bel_trans hb0 hb1
  clear D X Y hb0 hb1
  obtain ⟨d0, d1, d2, d3, d4⟩ := D1.five
  obtain ⟨y0, y1, y2, y3, y4⟩ := Y1.five
  have fy := Y1.frozen
  have hn1 : w.heap.size + 1 + 1 ≠ w.heap.size := by omega
  have hn2 : w.heap.size + 1 + 1 ≠ w.heap.size + 1 := by omega
  have D2 := ((D1.far (p := ⟨w.heap.size + 1 + 1, 0, none⟩) hn1 (.int .i64 rt)).far (p := ⟨w.heap.size + 1 + 1, 1, none⟩) hn1 (.int .i64 rq)).far (p := ⟨w.heap.size + 1 + 1, 2, none⟩) hn1 (.int .i64 rv)
  have X2 := ((X1.far (p := ⟨w.heap.size + 1 + 1, 0, none⟩) hn2 (.int .i64 rt)).far (p := ⟨w.heap.size + 1 + 1, 1, none⟩) hn2 (.int .i64 rq)).far (p := ⟨w.heap.size + 1 + 1, 2, none⟩) hn2 (.int .i64 rv)
  have Y2 := ((Y1.set 0 (.int .i64 rt)).set 1 (.int .i64 rq)).set 2 (.int .i64 rv)
  have E2 := ((E1.setCell (p := ⟨w.heap.size + 1 + 1, 0, none⟩) (by simp; omega) (.int .i64 rt)).setCell (p := ⟨w.heap.size + 1 + 1, 1, none⟩) (by simp; omega) (.int .i64 rq)).setCell (p := ⟨w.heap.size + 1 + 1, 2, none⟩) (by simp; omega) (.int .i64 rv)
  replace D2 := Lib.hid D2
  replace X2 := Lib.hid X2
  replace Y2 := Lib.hid Y2
  replace E2 := Lib.hid E2
  clear D1 X1 Y1 E1
  go_wp2_with fail
  generalize (((w1.setCell _ _).setCell _ _).setCell _ _ : World) = w2 at D2 X2 Y2 E2 ⊢
  refine (toSeals_any P p pc ps w2 hp (H1.out.later E2.out)).mono ?_
  rintro e w3 ⟨g, hg, rfl, _, hh, hb3⟩
  have D3 := D2.out.later hb3 D2.out.lt
  have X3 := X2.out.later hb3 X2.out.lt
  have Y3 : Box w3 (w.heap.size + 1 + 1) 80 #[.int .i64 rt, .int .i64 rq, .int .i64 rv, .slice none 0 0, .slice none 0 0] := Y2.out.later hb3 Y2.out.lt
  have E3 := bel_trans E2.out hb3
  have hYl := Y2.out.lt
  have hg1 : w.heap.size ≤ g := Nat.le_trans E2.out.size hg
  clear d0 d1 d2 d3 d4 y0 y1 y2 y3 y4 fy
  have D4 := Lib.hid (D3.far (p := ⟨w.heap.size + 1 + 1, 3, none⟩) hn1 (.slice (some ⟨g, 0, none⟩) p p))
  have X4 := Lib.hid (X3.far (p := ⟨w.heap.size + 1 + 1, 3, none⟩) hn2 (.slice (some ⟨g, 0, none⟩) p p))
  have Y4 := Lib.hid (Y3.set 3 (.slice (some ⟨g, 0, none⟩) p p))
  have E4 := Lib.hid (E3.setCell (p := ⟨w.heap.size + 1 + 1, 3, none⟩) (by simp; omega) (.slice (some ⟨g, 0, none⟩) p p))
  have G4 := Lib.hid (HeldK.far hh (b := w.heap.size + 1 + 1) (by omega) 3 (.slice (some ⟨g, 0, none⟩) p p))
  obtain ⟨d0, d1, d2, d3, d4⟩ := D3.five
  obtain ⟨y0, y1, y2, y3, y4⟩ := Y3.five
  have fy := Y3.frozen
  clear D2 X2 Y2 E2 D3 X3 Y3 E3 hb3 hh
  go_wp2_with fail
  generalize (w3.setCell _ _ : World) = w4 at D4 X4 Y4 E4 G4 ⊢
  refine (toOpens_any Q q qc os w4 hq (H3.out.later E4.out)).mono ?_
  rintro e w5 ⟨g', hg', rfl, _, hh5, hb5⟩
  have Y5 : Box w5 (w.heap.size + 1 + 1) 80 #[.int .i64 rt, .int .i64 rq, .int .i64 rv, .slice (some ⟨g, 0, none⟩) p p, .slice none 0 0] := Y4.out.later hb5 Y4.out.lt
  have X5 := X4.out.later hb5 X4.out.lt
  have E5 := bel_trans E4.out hb5
  have G5 := G4.out.later hb5
  have hgg : g < g' := Nat.lt_of_lt_of_le G4.out.lt hg'
  have hXl := X4.out.lt
  have hYl2 := Y4.out.lt
  clear d0 d1 d2 d3 d4 y0 y1 y2 y3 y4 fy D4 X4 Y4 E4 G4 hb5
  obtain ⟨x0, x1, x2, x3, x4⟩ := X5.five
  obtain ⟨y0, y1, y2, y3, y4⟩ := Y5.five
  have fy := Y5.frozen
  have fx := X5.frozen
  have HH := Lib.hid hh5
  have HG := Lib.hid G5
  have hbw := E5
  clear hh5 G5 X5 Y5
  go_wp2
  exact bodyPost_ret (v := .agg #[.int .i64 rt, .int .i64 rq, .int .i64 rv, .slice (some ⟨g, 0, none⟩) p p, .slice (some ⟨g', 0, none⟩) q q]) (by simp [results, Tryz.results45, go_sem, x0, x1, x2, x3, x4]) rfl ⟨g, g', hg1, hgg, rfl, by
    repeat (first | (with_reducible exact HG.out) | refine HeldK.far ?_ (by omega) _ _), by
    repeat (first | (with_reducible exact HH.out) | refine HeldQ.far ?_ (by omega) _ _), by
    repeat (first | (with_reducible exact hbw) | refine Below.setCell ?_ (by simp; try omega) _)⟩

end Go.Proofs.YtjdepjpjjgkmbaaGreat
