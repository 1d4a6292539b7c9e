/- The laws' own copies of stamps and of lists of them, their size and the test that two are alike: contracts of each of them. -/
import Derived.Test.YtpjmghkhbhhmcaaSpecStamp
import Derived.Laws.MakeOwn
namespace Go.Proofs.Ytpjmghkhbhhmcaa
open Go.RowKit

theorem toStamp_any (c k : Int) (w : World) :
    Calls Try.prog 21 #[.agg #[.int .i64 c, .int .i64 k]] w fun e w' => e = .returned (.agg #[.int .i64 c, .int .i64 k]) ∧ Below w.heap.size w w' := by
  go_enter Try.func21, Try.ntmps21
  go_wp2
  exact bodyPost_ret (v := .agg #[.int .i64 c, .int .i64 k]) (by simp [results, Try.results21, go_sem]) rfl ⟨rfl, by
    first
    | exact bel_trans (bel_trans (bel_alloc _ _) (bel_alloc _ _)) (bel_alloc _ _)
    | exact (((((bel_trans (bel_trans (bel_alloc _ _) (bel_alloc _ _)) (bel_alloc _ _)).setCell (by simp) _).setCell (by simp) _).setCell (by simp) _).setCell (by simp) _)⟩

theorem eqStamp_same (c k : Int) (w : World) :
    Calls Try.prog 22 #[.agg #[.int .i64 c, .int .i64 k], .agg #[.int .i64 c, .int .i64 k]] w fun e w' => e = .returned (.bool true) ∧ Below w.heap.size w w' := by
  go_enter Try.func22, Try.ntmps22
  go_wp2
  go_ret
  exact ⟨rfl, bel_trans (bel_alloc _ _) (bel_alloc _ _)⟩

theorem szStamps_le (A : Option Addr) (n cap : Nat) (w : World) (hm : n ≤ 1048576) :
    Calls Try.prog 23 #[.slice A n cap, .int .i64 1048576] w fun e w' => e = .returned (.int .i64 (1048576 - n)) ∧ w = w' := by
  go_enter Try.func23, Try.ntmps23
  go_wp2
  go_ret
  exact ⟨rfl, rfl⟩
theorem szStamps_gt (A : Option Addr) (n cap : Nat) (w : World) (hm : 1048576 < n) (hx : n ≤ maxLen) :
    Calls Try.prog 23 #[.slice A n cap, .int .i64 1048576] w fun e w' => e = .returned (.int .i64 (-1)) ∧ w = w' := by
  unfold maxLen at hx
  have h : (1048576 : Int) - n < 0 := by omega
  go_enter Try.func23, Try.ntmps23
  go_wp2
  go_ret
  exact ⟨rfl, rfl⟩

theorem Try.infoStamp : (Try.prog.info? 25).map (fun i => (i.zero, i.size, i.bytes)) = some (some (.agg #[.int .i64 0, .int .i64 0]), 2, 16) := by kernel_rfl

/-- n pairs of noughts are made. -/
theorem run_make_pairs {P : Program} (t e : TypeId) (ht : P.underlying t = some (.slice e)) (hinfo : (P.info? e).map (fun i => (i.zero, i.size, i.bytes)) = some (some (.agg #[.int .i64 0, .int .i64 0]), 2, 16))
    (n : Nat) (hn : n ≤ 1048576) (w : World) :
    (Instr.makeSlice t (.int .i64 (n : Int)) (.int .i64 (n : Int))).run P w = .ok (.slice (some ⟨w.heap.size, 0, none⟩) n n) (w.alloc (.cells (madeCells #[.int .i64 0, .int .i64 0] (n * 2)) e)) := by
  obtain ⟨i, hi, hzz⟩ := Option.map_eq_some_iff.1 hinfo
  simp only [Prod.mk.injEq] at hzz
  obtain ⟨hz, hs, hb⟩ := hzz
  have hr := run_make (P := P) w t e i _ ht hi hz .i64 .i64 n n (by omega) (Int.le_refl _) (by rw [hb]; omega) (by omega)
  simp only [Int.toNat_natCast, hs] at hr
  exact hr
theorem made_pairs (w : World) (n : Nat) (t : TypeId) : (w.alloc (.cells (madeCells #[.int .i64 0, .int .i64 0] (n * 2)) t)).rowIs w.heap.size t (n * 2) (fun _ => .int .i64 0) :=
  ⟨madeCells #[.int .i64 0, .int .i64 0] (n * 2), heap_alloc_new w _, size_madeCells _ _, fun i hi => by
    have h : i % 2 = 0 ∨ i % 2 = 1 := by omega
    rcases h with h | h <;> simp [madeCells, hi, h]⟩

/-- What a copy of n pairs leaves: a new row that holds them. -/
def MadePairs (w : World) (n : Nat) (ps : List (Int × Int)) (e : Ending) (w' : World) : Prop :=
  ∃ g, w.heap.size ≤ g ∧ e = .returned (.slice (some ⟨g, 0, none⟩) n n) ∧ Pairs w' w'.heap.size (some ⟨g, 0, none⟩) n ps ∧ Below w.heap.size w w'

/-- The first k pairs are copied. -/
def uptoP (ps : List (Int × Int)) (k j : Nat) : Value := if j < k * 2 then (if j % 2 = 0 then .int .i64 (pth ps (j / 2)).1 else .int .i64 (pth ps (j / 2)).2) else .int .i64 0
theorem uptoP_zero (ps : List (Int × Int)) (j : Nat) : uptoP ps 0 j = .int .i64 0 := by simp [uptoP]
theorem uptoP_succ {w : World} {b n k : Nat} {t : TypeId} {ps : List (Int × Int)} {x y : Int} (h : w.rowIs b t n (uptoP ps k)) (hx : pth ps k = (x, y)) :
    ((w.setCell ⟨b, k * 2, none⟩ (.int .i64 x)).setCell ⟨b, k * 2 + 1, none⟩ (.int .i64 y)).rowIs b t n (uptoP ps (k + 1)) :=
  ((h.set (k * 2) _).set (k * 2 + 1) _).congr fun i _ => by
    unfold uptoP
    by_cases e : i = k * 2 + 1
    · subst e
      have h1 : (k * 2 + 1) % 2 = 1 := by omega
      have h2 : (k * 2 + 1) / 2 = k := by omega
      have h3 : k * 2 + 1 < (k + 1) * 2 := by omega
      simp [h1, h2, h3, hx]
    · by_cases f : i = k * 2
      · subst f
        have h1 : (k * 2) % 2 = 0 := by omega
        have h2 : (k * 2) / 2 = k := by omega
        have h3 : k * 2 < (k + 1) * 2 := by omega
        simp [h2, h3, hx]
      · by_cases g : i < k * 2
        · simp [e, f, g, show i < (k + 1) * 2 by omega]
        · simp [e, f, g, show ¬ i < (k + 1) * 2 by omega]
theorem uptoP_all {w : World} {b n : Nat} {t : TypeId} {ps : List (Int × Int)} (h : w.rowIs b t (n * 2) (uptoP ps n)) (hl : ps.length = n) : Pairs w w.heap.size (some ⟨b, 0, none⟩) n ps := by
  refine ⟨hl, fun _ => ⟨b, 0, rfl, h.lt, fun i hi => ⟨?_, ?_⟩⟩⟩
  · have h1 : (i * 2) % 2 = 0 := by omega
    have h2 : (i * 2) / 2 = i := by omega
    rw [Nat.zero_add, h.cell (i := i * 2) (by omega)]
    simp [uptoP, h2, show i * 2 < n * 2 by omega]
  · have h1 : (i * 2 + 1) % 2 = 1 := by omega
    have h2 : (i * 2 + 1) / 2 = i := by omega
    rw [Nat.zero_add, h.cell (i := i * 2 + 1) (by omega)]
    simp [uptoP, h1, h2, show i * 2 + 1 < n * 2 by omega]

set_option maxHeartbeats 400000 in
theorem toStamps_any (A : Option Addr) (n cap : Nat) (ps : List (Int × Int)) (w : World) (hm : n ≤ 1048576) (hr : Pairs w w.heap.size A n ps) :
    Calls Try.prog 24 #[.slice A n cap] w (MadePairs w n ps) := by
  have hmk := fun W => run_make_pairs (P := Try.prog) 34 25 Try.underlying34 Try.infoStamp n hm W
  have HR := Lib.hid hr
  clear hr
  go_enter Try.func24, Try.ntmps24
  go_wp2_with fail
  go_loopw [4] (fun i wr => ∃ k : Nat, k ≤ n ∧ i = .int .i64 k ∧ wr.rowIs w.heap.size 25 (n * 2) (uptoP ps k) ∧ Below w.heap.size w wr) (fun i _ => n - (intOf i).toNat)
  case atStart => exact ⟨0, Nat.zero_le _, rfl, (made_pairs w n 25).congr (fun i _ => (uptoP_zero ps i).symm), bel_alloc _ _⟩
  case round =>
    obtain ⟨k, hk, rfl, hrow, hb⟩ := hrel
    clear hmk
    by_cases hlt : k < n
    · obtain ⟨b, o, hA, hbB, hcell⟩ := HR.out.2 (by omega)
      subst hA
      obtain ⟨g0, g1⟩ := hcell k hlt
      have g0 := (hb.cell (p := ⟨b, o + k * 2, none⟩) hbB).trans g0
      have g1 := (hb.cell (p := ⟨b, o + k * 2 + 1, none⟩) hbB).trans g1
      generalize hx : pth ps k = x at g0 g1
      obtain ⟨x, y⟩ := x
      have HX := Lib.hid hx
      clear hx hcell
      go_wp2_with fail
      refine (toStamp_any x y _).mono ?_
      rintro e w1 ⟨rfl, hb1⟩
      have hrow1 := hrow.of_block (hb1.block _ hrow.lt)
      have E1 := bel_trans hb hb1
      clear hrow hb g0 g1
      have c0 := hrow1.cell (i := k * 2) (by omega)
      have c1 := hrow1.cell (i := k * 2 + 1) (by omega)
      have fr := hrow1.frozen
      have HS := Lib.hid (uptoP_succ hrow1 HX.out)
      have HB := Lib.hid ((E1.setCell (p := ⟨w.heap.size, k * 2, none⟩) (Nat.le_refl _) (.int .i64 x)).setCell (p := ⟨w.heap.size, k * 2 + 1, none⟩) (Nat.le_refl _) (.int .i64 y))
      have hlt' : (k : Int) < (n : Int) := by omega
      go_wp2
      go_roundw
      case rel => exact ⟨k + 1, by omega, by go_num, HS.out, HB.out⟩
      case measure => simp [intOf]; omega
    · have hkn : k = n := by omega
      subst hkn
      have hz := HR.out.1
      go_wp2
      go_ret
      exact ⟨_, Nat.le_refl _, rfl, uptoP_all hrow hz, hb⟩

set_option maxHeartbeats 400000 in
theorem eqStamps_same (A A' : Option Addr) (n cap cap' : Nat) (ps : List (Int × Int)) (w : World) (hm : n ≤ 1048576) (hr : Pairs w w.heap.size A n ps) (hr' : Pairs w w.heap.size A' n ps) :
    Calls Try.prog 25 #[.slice A n cap, .slice A' n cap'] w fun e w' => e = .returned (.bool true) ∧ Below w.heap.size w w' := by
  have HR := Lib.hid hr
  have HR' := Lib.hid hr'
  clear hr hr'
  go_enter Try.func25, Try.ntmps25
  go_wp2_with fail
  go_loopw [5] (fun i wr => ∃ k : Nat, k ≤ n ∧ i = .int .i64 k ∧ Below w.heap.size w wr) (fun i _ => n - (intOf i).toNat)
  case atStart => exact ⟨0, Nat.zero_le _, rfl, Below.refl _ _⟩
  case round =>
    obtain ⟨k, hk, rfl, hb⟩ := hrel
    by_cases hlt : k < n
    · obtain ⟨b, o, hA, hbB, hcell⟩ := HR.out.2 (by omega)
      obtain ⟨b', o', hA', hbB', hcell'⟩ := HR'.out.2 (by omega)
      subst hA hA'
      obtain ⟨g0, g1⟩ := hcell k hlt
      obtain ⟨h0, h1⟩ := hcell' k hlt
      have hz := hb.size
      have g0 := After.cell (w := wr) (a := ⟨b, o + k * 2, none⟩) (by simp; omega) ((hb.cell (p := ⟨b, o + k * 2, none⟩) hbB).trans g0)
      have g1 := After.cell (w := wr) (a := ⟨b, o + k * 2 + 1, none⟩) (by simp; omega) ((hb.cell (p := ⟨b, o + k * 2 + 1, none⟩) hbB).trans g1)
      have h0 := After.cell (w := wr) (a := ⟨b', o' + k * 2, none⟩) (by simp; omega) ((hb.cell (p := ⟨b', o' + k * 2, none⟩) hbB').trans h0)
      have h1 := After.cell (w := wr) (a := ⟨b', o' + k * 2 + 1, none⟩) (by simp; omega) ((hb.cell (p := ⟨b', o' + k * 2 + 1, none⟩) hbB').trans h1)
      generalize pth ps k = x at g0 g1 h0 h1
      obtain ⟨x, y⟩ := x
      have hlt' : (k : Int) < (n : Int) := by omega
      clear hcell hcell'
      go_wp2_with fail
      refine wp_region_after (by kernel_rfl) (by kernel_rfl) ?_
      repeat (first | go_big_quiet_step ((go_at_call 22; exact after_of (eqStamp_same x y _))) | quiet_step ((go_at_call 22; exact after_of (eqStamp_same x y _))))
      refine wpQuiet_nil ?_
      intro pw
      have E3 := bel_trans hb pw.bel
      go_wp2
      go_roundw
      case rel => exact ⟨k + 1, by omega, by go_num, E3⟩
      case measure => simp [intOf]; omega
    · go_wp2
      go_ret
      exact ⟨rfl, hb⟩

end Go.Proofs.Ytpjmghkhbhhmcaa
