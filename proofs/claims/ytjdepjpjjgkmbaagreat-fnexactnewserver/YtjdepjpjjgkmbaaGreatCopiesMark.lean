/- The laws' own copies of a group, their size and the test that two are alike: contracts of each of them. -/
import Derived.Test.YtjdepjpjjgkmbaaGreatGroup
import Derived.Test.YtjdepjpjjgkmbaaGreatBase
namespace Go.Proofs.YtjdepjpjjgkmbaaGreat
open Go.RowKit

theorem Tryz.infoInt64 : (Tryz.prog.info? 2).map (fun i => (i.zero, i.size, i.bytes)) = some (some (.int .i64 0), 1, 8) := by kernel_rfl

/-- What a copy of n numbers leaves: a new row that holds them. -/
def MadeRow (w : World) (n : Nat) (zs : List Int) (e : Ending) (w' : World) : Prop :=
  ∃ g, w.heap.size ≤ g ∧ e = .returned (.slice (some ⟨g, 0, none⟩) n n) ∧ Row w' w'.heap.size (some ⟨g, 0, none⟩) n zs ∧ Below w.heap.size w w'

/-- The first k are copied. -/
def upto (zs : List Int) (k j : Nat) : Value := if j < k then .int .i64 (nth zs j) else .int .i64 0

theorem upto_succ {w : World} {b n k : Nat} {zs : List Int} (h : w.rowIs b 2 n (upto zs k)) :
    (w.setCell ⟨b, k, none⟩ (.int .i64 (nth zs k))).rowIs b 2 n (upto zs (k + 1)) :=
  (h.set k _).congr fun i _ => by
    unfold upto
    by_cases e : i = k
    · subst e; simp
    · by_cases f : i < k
      · simp [e, f, show i < k + 1 by omega]
      · simp [e, f, show ¬ i < k + 1 by omega]

set_option maxHeartbeats 400000 in
theorem toInts_any (A : Option Addr) (n cap : Nat) (zs : List Int) (w : World) (hm : n ≤ 1048576) (hr : Row w w.heap.size A n zs) :
    Calls Tryz.prog 85 #[.slice A n cap] w (MadeRow w n zs) := by
  have hmk := fun W => run_make_row' (P := Tryz.prog) 24 2 (.int .i64 0) 8 Tryz.underlying24 Tryz.infoInt64 rfl .i64 .i64 n (by omega) (by omega) W
  have HR := Lib.hid hr
  clear hr
  go_enter Tryz.func85, Tryz.ntmps85
  go_wp2_with fail
  go_loopw [4] (fun i wr => ∃ k : Nat, k ≤ n ∧ i = .int .i64 k ∧ wr.rowIs w.heap.size 2 n (upto zs k) ∧ Below w.heap.size w wr) (fun i _ => n - (intOf i).toNat)
  case atStart => exact ⟨0, Nat.zero_le _, rfl, (World.rowIs_made w (.int .i64 0) n 2).congr (fun i _ => by simp [upto]), bel_alloc _ _⟩
  case round =>
    obtain ⟨k, hk, rfl, hrow, hb⟩ := hrel
    by_cases hlt : k < n
    · obtain ⟨b, o, hA, hbB, hcell⟩ := HR.out.2 (by omega)
      subst hA
      have g := (hb.cell (p := ⟨b, o + k, none⟩) hbB).trans (hcell k hlt)
      have g1 := hrow.cell hlt
      have g2 := hrow.frozen k
      have HS := Lib.hid (upto_succ hrow)
      have HB := Lib.hid (hb.setCell (p := ⟨w.heap.size, k, none⟩) (Nat.le_refl _) (.int .i64 (nth zs k)))
      clear hcell hrow hb
      go_wp2
      go_roundw
      case rel => exact ⟨k + 1, by omega, by go_num, HS.out, HB.out⟩
      case measure => simp [intOf]; omega
    · have hkn : k = n := by omega
      subst hkn
      have hz := HR.out.1
      go_wp2
      go_ret
      exact ⟨_, Nat.le_refl _, rfl, ⟨hz, fun _ => ⟨_, _, rfl, hrow.lt, fun i hi => by rw [Nat.zero_add, hrow.cell hi]; simp [upto, hi]⟩⟩, hb⟩

/-- A copy of a group: the same numbers, new keys. -/
def MadeGroup (w : World) (s l c sh : Int) (n : Nat) (zs : List Int) (e : Ending) (w' : World) : Prop :=
  ∃ g, w.heap.size ≤ g ∧ e = .returned (.agg #[.int .i64 s, .int .i64 l, .int .i64 c, .int .i64 sh, .slice (some ⟨g, 0, none⟩) n n]) ∧ Row w' w'.heap.size (some ⟨g, 0, none⟩) n zs ∧ Below w.heap.size w w'

set_option maxHeartbeats 400000 in
theorem toGroup_any (s l c sh : Int) (A : Option Addr) (n cap : Nat) (zs : List Int) (w : World) (hm : n ≤ 1048576) (hr : Row w w.heap.size A n zs) :
    Calls Tryz.prog 26 #[.agg #[.int .i64 s, .int .i64 l, .int .i64 c, .int .i64 sh, .slice A n cap]] w (MadeGroup w s l c sh n zs) := by
  have HR := Lib.hid hr
  clear hr
  go_enter Tryz.func26, Tryz.ntmps26
  go_wp2_with fail
  have B0 := Box.new w 47 #[.int .i64 s, .int .i64 l, .int .i64 c, .int .i64 sh, .slice A n cap]
  have B1 := Box.new (w.alloc (.cells #[.int .i64 s, .int .i64 l, .int .i64 c, .int .i64 sh, .slice A n cap] 47)) 26 #[.int .i64 0, .int .i64 0, .int .i64 0, .int .i64 0, .slice none 0 0]
  have B2 := Box.new ((w.alloc (.cells #[.int .i64 s, .int .i64 l, .int .i64 c, .int .i64 sh, .slice A n cap] 47)).alloc (.cells #[.int .i64 0, .int .i64 0, .int .i64 0, .int .i64 0, .slice none 0 0] 26)) 26 #[.int .i64 s, .int .i64 l, .int .i64 c, .int .i64 sh, .slice none 0 0]
  have B1' := B1.alloc (.cells #[.int .i64 s, .int .i64 l, .int .i64 c, .int .i64 sh, .slice none 0 0] 26)
  clear B0 B1
  simp only [World.size_alloc] at B1' B2
  have hbW : Below w.heap.size w (((w.alloc (.cells #[.int .i64 s, .int .i64 l, .int .i64 c, .int .i64 sh, .slice A n cap] 47)).alloc (.cells #[.int .i64 0, .int .i64 0, .int .i64 0, .int .i64 0, .slice none 0 0] 26)).alloc (.cells #[.int .i64 s, .int .i64 l, .int .i64 c, .int .i64 sh, .slice none 0 0] 26)) := bel_trans (bel_trans (bel_alloc _ _) (bel_alloc _ _)) (bel_alloc _ _)
  generalize (((w.alloc _).alloc _).alloc _ : World) = W at B1' B2 hbW ⊢
  refine (toInts_any A n cap zs W hm ((HR.out.below hbW (Nat.le_refl _)).more hbW.size)).mono ?_
  rintro e w1 ⟨g, hg, rfl, hrow, hb1⟩
  have C1 := B1'.later hb1 B1'.lt
  have C2 := B2.later hb1 B2.lt
  have hbw := bel_trans hbW hb1
  have c10 : w1.cell? ⟨w.heap.size + 1, 0, none⟩ = some (.int .i64 0) := C1.cell 0
  have c11 : w1.cell? ⟨w.heap.size + 1, 1, none⟩ = some (.int .i64 0) := C1.cell 1
  have c12 : w1.cell? ⟨w.heap.size + 1, 2, none⟩ = some (.int .i64 0) := C1.cell 2
  have c13 : w1.cell? ⟨w.heap.size + 1, 3, none⟩ = some (.int .i64 0) := C1.cell 3
  have c14 : w1.cell? ⟨w.heap.size + 1, 4, none⟩ = some (.slice none 0 0) := C1.cell 4
  have c20 : w1.cell? ⟨w.heap.size + 1 + 1, 0, none⟩ = some (.int .i64 s) := C2.cell 0
  have c21 : w1.cell? ⟨w.heap.size + 1 + 1, 1, none⟩ = some (.int .i64 l) := C2.cell 1
  have c22 : w1.cell? ⟨w.heap.size + 1 + 1, 2, none⟩ = some (.int .i64 c) := C2.cell 2
  have c23 : w1.cell? ⟨w.heap.size + 1 + 1, 3, none⟩ = some (.int .i64 sh) := C2.cell 3
  have c24 : w1.cell? ⟨w.heap.size + 1 + 1, 4, none⟩ = some (.slice none 0 0) := C2.cell 4
  have f1 : ∀ i, w1.frozen? ⟨w.heap.size + 1, i, none⟩ = false := fun i => C1.frozen i
  have f2 : ∀ i, w1.frozen? ⟨w.heap.size + 1 + 1, i, none⟩ = false := fun i => C2.frozen i
  have hg1 := B1'.lt
  have hg2 := B2.lt
  have HF := Lib.hid ((((((hrow.set (p := ⟨w.heap.size + 1 + 1, 4, none⟩) (by simp; omega) (.slice (some ⟨g, 0, none⟩) n n)).set (p := ⟨w.heap.size + 1, 0, none⟩) (by simp; omega) (.int .i64 s)).set (p := ⟨w.heap.size + 1, 1, none⟩) (by simp; omega) (.int .i64 l)).set
    (p := ⟨w.heap.size + 1, 2, none⟩) (by simp; omega) (.int .i64 c)).set (p := ⟨w.heap.size + 1, 3, none⟩) (by simp; omega) (.int .i64 sh)).set (p := ⟨w.heap.size + 1, 4, none⟩) (by simp; omega) (.slice (some ⟨g, 0, none⟩) n n))
  have HB := Lib.hid ((((((hbw.setCell (p := ⟨w.heap.size + 1 + 1, 4, none⟩) (by simp; omega) (.slice (some ⟨g, 0, none⟩) n n)).setCell (p := ⟨w.heap.size + 1, 0, none⟩) (by simp) (.int .i64 s)).setCell (p := ⟨w.heap.size + 1, 1, none⟩) (by simp) (.int .i64 l)).setCell
    (p := ⟨w.heap.size + 1, 2, none⟩) (by simp) (.int .i64 c)).setCell (p := ⟨w.heap.size + 1, 3, none⟩) (by simp) (.int .i64 sh)).setCell (p := ⟨w.heap.size + 1, 4, none⟩) (by simp) (.slice (some ⟨g, 0, none⟩) n n))
  have HG : Hid (w.heap.size ≤ g) := Nat.le_trans hbW.size hg
  clear hrow hbw hb1 hg hbW B1' B2 C1 C2
  go_wp2
  exact bodyPost_ret (v := .agg #[.int .i64 s, .int .i64 l, .int .i64 c, .int .i64 sh, .slice (some ⟨g, 0, none⟩) n n]) (by simp [results, Tryz.results26, go_sem, c10, c11, c12, c13, c14]) rfl ⟨g, HG, rfl, HF, HB⟩

theorem szInts_le (A : Option Addr) (n cap : Nat) (w : World) (hm : n ≤ 1048576) :
    Calls Tryz.prog 83 #[.slice A n cap, .int .i64 1048576] w fun e w' => e = .returned (.int .i64 (1048576 - n)) ∧ w = w' := by
  go_enter Tryz.func83, Tryz.ntmps83
  go_wp2
  go_ret
  exact ⟨rfl, rfl⟩
theorem szInts_gt (A : Option Addr) (n cap : Nat) (w : World) (hm : 1048576 < n) (hx : n ≤ maxLen) :
    Calls Tryz.prog 83 #[.slice A n cap, .int .i64 1048576] w fun e w' => e = .returned (.int .i64 (-1)) ∧ w = w' := by
  unfold maxLen at hx
  have h : (1048576 : Int) - n < 0 := by omega
  go_enter Tryz.func83, Tryz.ntmps83
  go_wp2
  go_ret
  exact ⟨rfl, rfl⟩

theorem szGroup_le (s l c sh : Int) (A : Option Addr) (n cap : Nat) (w : World) (hm : n ≤ 1048576) :
    Calls Tryz.prog 24 #[.agg #[.int .i64 s, .int .i64 l, .int .i64 c, .int .i64 sh, .slice A n cap], .int .i64 1048576] w fun e w' => e = .returned (.int .i64 (1048576 - n)) ∧ Below w.heap.size w w' := by
  go_enter Tryz.func24, Tryz.ntmps24
  go_wp2_with (go_at_call 83; refine (szInts_le A n cap _ hm).mono ?_; rintro e w' ⟨rfl, rfl⟩)
  go_ret
  exact ⟨rfl, bel_alloc _ _⟩
theorem szGroup_gt (s l c sh : Int) (A : Option Addr) (n cap : Nat) (w : World) (hm : 1048576 < n) (hx : n ≤ maxLen) :
    Calls Tryz.prog 24 #[.agg #[.int .i64 s, .int .i64 l, .int .i64 c, .int .i64 sh, .slice A n cap], .int .i64 1048576] w fun e w' => e = .returned (.int .i64 (-1)) ∧ Below w.heap.size w w' := by
  go_enter Tryz.func24, Tryz.ntmps24
  go_wp2_with (go_at_call 83; refine (szInts_gt A n cap _ hm hx).mono ?_; rintro e w' ⟨rfl, rfl⟩)
  go_ret
  exact ⟨rfl, bel_alloc _ _⟩

set_option maxHeartbeats 400000 in
theorem eqInts_same (A A' : Option Addr) (n cap cap' : Nat) (zs : List Int) (w : World) (hm : n ≤ 1048576) (hr : Row w w.heap.size A n zs) (hr' : Row w w.heap.size A' n zs) :
    Calls Tryz.prog 87 #[.slice A n cap, .slice A' n cap'] w fun e w' => e = .returned (.bool true) ∧ Below w.heap.size w w' := by
  have HR := Lib.hid hr
  have HR' := Lib.hid hr'
  clear hr hr'
  go_enter Tryz.func87, Tryz.ntmps87
  go_wp2_with fail
  go_loopw [5] (fun i wr => ∃ k : Nat, k ≤ n ∧ i = .int .i64 k ∧ Below w.heap.size w wr) (fun i _ => n - (intOf i).toNat)
  case atStart => exact ⟨0, Nat.zero_le _, rfl, Below.refl _ _⟩
  case round =>
    obtain ⟨k, hk, rfl, hb⟩ := hrel
    by_cases hlt : k < n
    · obtain ⟨b, o, hA, hbB, hcell⟩ := HR.out.2 (by omega)
      obtain ⟨b', o', hA', hbB', hcell'⟩ := HR'.out.2 (by omega)
      subst hA hA'
      have g := (hb.cell (p := ⟨b, o + k, none⟩) hbB).trans (hcell k hlt)
      have g' := (hb.cell (p := ⟨b', o' + k, none⟩) hbB').trans (hcell' k hlt)
      have hlt' : (k : Int) < (n : Int) := by omega
      clear hcell hcell'
      go_wp2_with fail
      go_quiet (fail)
      go_wp2
      go_roundw
      case rel => exact ⟨k + 1, by omega, by go_num, bel_drewN hb _⟩
      case measure => simp [intOf]; omega
    · go_wp2
      go_ret
      exact ⟨rfl, hb⟩

set_option maxHeartbeats 400000 in
theorem eqGroup_same (s l c sh : Int) (A A' : Option Addr) (n cap cap' : Nat) (zs : List Int) (w : World) (hm : n ≤ 1048576) (hr : Row w w.heap.size A n zs) (hr' : Row w w.heap.size A' n zs) :
    Calls Tryz.prog 28 #[.agg #[.int .i64 s, .int .i64 l, .int .i64 c, .int .i64 sh, .slice A n cap], .agg #[.int .i64 s, .int .i64 l, .int .i64 c, .int .i64 sh, .slice A' n cap']] w fun e w' => e = .returned (.bool true) ∧ Below w.heap.size w w' := by
  have HR := Lib.hid hr
  have HR' := Lib.hid hr'
  clear hr hr'
  go_enter Tryz.func28, Tryz.ntmps28
  go_wp2_with fail
  have hbW := bel_trans (bel_alloc w (.cells #[.int .i64 s, .int .i64 l, .int .i64 c, .int .i64 sh, .slice A n cap] 26)) (bel_alloc _ (.cells #[.int .i64 s, .int .i64 l, .int .i64 c, .int .i64 sh, .slice A' n cap'] 26))
  generalize ((w.alloc _).alloc _ : World) = W at hbW ⊢
  refine (eqInts_same A A' n cap cap' zs W hm ((HR.out.below hbW (Nat.le_refl _)).more hbW.size) ((HR'.out.below hbW (Nat.le_refl _)).more hbW.size)).mono ?_
  rintro e w1 ⟨rfl, hb1⟩
  go_wp2
  go_ret
  exact ⟨rfl, bel_trans hbW hb1⟩

end Go.Proofs.YtjdepjpjjgkmbaaGreat

/- The laws' own copies of a group whose keys can be written, and their marks: contracts of each of them. -/
namespace Go.Proofs.YtjdepjpjjgkmbaaGreat
open Go.RowKit

/-- What a copy of n numbers leaves: a new row that holds them, and that can be written. -/
def MadeRowF (w : World) (n : Nat) (zs : List Int) (e : Ending) (w' : World) : Prop :=
  ∃ g, w.heap.size ≤ g ∧ e = .returned (.slice (some ⟨g, 0, none⟩) n n) ∧ Row w' w'.heap.size (some ⟨g, 0, none⟩) n zs ∧ (∀ i, w'.frozen? ⟨g, i, none⟩ = false) ∧ g < w'.heap.size ∧ Below w.heap.size w w'

set_option maxHeartbeats 400000 in
theorem toInts_fr (A : Option Addr) (n cap : Nat) (zs : List Int) (w : World) (hm : n ≤ 1048576) (hr : Row w w.heap.size A n zs) :
    Calls Tryz.prog 85 #[.slice A n cap] w (MadeRowF w n zs) := by
  have hmk := fun W => run_make_row' (P := Tryz.prog) 24 2 (.int .i64 0) 8 Tryz.underlying24 Tryz.infoInt64 rfl .i64 .i64 n (by omega) (by omega) W
  have HR := Lib.hid hr
  clear hr
  go_enter Tryz.func85, Tryz.ntmps85
  go_wp2_with fail
  go_loopw [4] (fun i wr => ∃ k : Nat, k ≤ n ∧ i = .int .i64 k ∧ wr.rowIs w.heap.size 2 n (upto zs k) ∧ Below w.heap.size w wr) (fun i _ => n - (intOf i).toNat)
  case atStart => exact ⟨0, Nat.zero_le _, rfl, (World.rowIs_made w (.int .i64 0) n 2).congr (fun i _ => by simp [upto]), bel_alloc _ _⟩
  case round =>
    obtain ⟨k, hk, rfl, hrow, hb⟩ := hrel
    by_cases hlt : k < n
    · obtain ⟨b, o, hA, hbB, hcell⟩ := HR.out.2 (by omega)
      subst hA
      have g := (hb.cell (p := ⟨b, o + k, none⟩) hbB).trans (hcell k hlt)
      have g1 := hrow.cell hlt
      have g2 := hrow.frozen k
      have HS := Lib.hid (upto_succ hrow)
      have HB := Lib.hid (hb.setCell (p := ⟨w.heap.size, k, none⟩) (Nat.le_refl _) (.int .i64 (nth zs k)))
      clear hcell hrow hb
      go_wp2
      go_roundw
      case rel => exact ⟨k + 1, by omega, by go_num, HS.out, HB.out⟩
      case measure => simp [intOf]; omega
    · have hkn : k = n := by omega
      subst hkn
      have hz := HR.out.1
      go_wp2
      go_ret
      exact ⟨_, Nat.le_refl _, rfl, ⟨hz, fun _ => ⟨_, _, rfl, hrow.lt, fun i hi => by rw [Nat.zero_add, hrow.cell hi]; simp [upto, hi]⟩⟩, fun i => hrow.frozen i, hrow.lt, hb⟩

/-- A copy of a group: the same numbers, new keys, which can be written. -/
def MadeGroupF (w : World) (s l c sh : Int) (n : Nat) (zs : List Int) (e : Ending) (w' : World) : Prop :=
  ∃ g, w.heap.size ≤ g ∧ e = .returned (.agg #[.int .i64 s, .int .i64 l, .int .i64 c, .int .i64 sh, .slice (some ⟨g, 0, none⟩) n n]) ∧ Row w' w'.heap.size (some ⟨g, 0, none⟩) n zs ∧ (∀ i, w'.frozen? ⟨g, i, none⟩ = false) ∧ g < w'.heap.size ∧ Below w.heap.size w w'

set_option maxHeartbeats 400000 in
theorem toGroup_fr (s l c sh : Int) (A : Option Addr) (n cap : Nat) (zs : List Int) (w : World) (hm : n ≤ 1048576) (hr : Row w w.heap.size A n zs) :
    Calls Tryz.prog 26 #[.agg #[.int .i64 s, .int .i64 l, .int .i64 c, .int .i64 sh, .slice A n cap]] w (MadeGroupF w s l c sh n zs) := by
  have HR := Lib.hid hr
  clear hr
  go_enter Tryz.func26, Tryz.ntmps26
  go_wp2_with fail
  have B0 := Box.new w 47 #[.int .i64 s, .int .i64 l, .int .i64 c, .int .i64 sh, .slice A n cap]
  have B1 := Box.new (w.alloc (.cells #[.int .i64 s, .int .i64 l, .int .i64 c, .int .i64 sh, .slice A n cap] 47)) 26 #[.int .i64 0, .int .i64 0, .int .i64 0, .int .i64 0, .slice none 0 0]
  have B2 := Box.new ((w.alloc (.cells #[.int .i64 s, .int .i64 l, .int .i64 c, .int .i64 sh, .slice A n cap] 47)).alloc (.cells #[.int .i64 0, .int .i64 0, .int .i64 0, .int .i64 0, .slice none 0 0] 26)) 26 #[.int .i64 s, .int .i64 l, .int .i64 c, .int .i64 sh, .slice none 0 0]
  have B1' := B1.alloc (.cells #[.int .i64 s, .int .i64 l, .int .i64 c, .int .i64 sh, .slice none 0 0] 26)
  clear B0 B1
  simp only [World.size_alloc] at B1' B2
  have hbW : Below w.heap.size w (((w.alloc (.cells #[.int .i64 s, .int .i64 l, .int .i64 c, .int .i64 sh, .slice A n cap] 47)).alloc (.cells #[.int .i64 0, .int .i64 0, .int .i64 0, .int .i64 0, .slice none 0 0] 26)).alloc (.cells #[.int .i64 s, .int .i64 l, .int .i64 c, .int .i64 sh, .slice none 0 0] 26)) := bel_trans (bel_trans (bel_alloc _ _) (bel_alloc _ _)) (bel_alloc _ _)
  generalize (((w.alloc _).alloc _).alloc _ : World) = W at B1' B2 hbW ⊢
  refine (toInts_fr A n cap zs W hm ((HR.out.below hbW (Nat.le_refl _)).more hbW.size)).mono ?_
  rintro e w1 ⟨g, hg, rfl, hrow, hfz, hgl, hb1⟩
  replace hgl := Lib.hid hgl
  replace hfz := Lib.hid hfz
  have C1 := B1'.later hb1 B1'.lt
  have C2 := B2.later hb1 B2.lt
  have hbw := bel_trans hbW hb1
  have c10 : w1.cell? ⟨w.heap.size + 1, 0, none⟩ = some (.int .i64 0) := C1.cell 0
  have c11 : w1.cell? ⟨w.heap.size + 1, 1, none⟩ = some (.int .i64 0) := C1.cell 1
  have c12 : w1.cell? ⟨w.heap.size + 1, 2, none⟩ = some (.int .i64 0) := C1.cell 2
  have c13 : w1.cell? ⟨w.heap.size + 1, 3, none⟩ = some (.int .i64 0) := C1.cell 3
  have c14 : w1.cell? ⟨w.heap.size + 1, 4, none⟩ = some (.slice none 0 0) := C1.cell 4
  have c20 : w1.cell? ⟨w.heap.size + 1 + 1, 0, none⟩ = some (.int .i64 s) := C2.cell 0
  have c21 : w1.cell? ⟨w.heap.size + 1 + 1, 1, none⟩ = some (.int .i64 l) := C2.cell 1
  have c22 : w1.cell? ⟨w.heap.size + 1 + 1, 2, none⟩ = some (.int .i64 c) := C2.cell 2
  have c23 : w1.cell? ⟨w.heap.size + 1 + 1, 3, none⟩ = some (.int .i64 sh) := C2.cell 3
  have c24 : w1.cell? ⟨w.heap.size + 1 + 1, 4, none⟩ = some (.slice none 0 0) := C2.cell 4
  have f1 : ∀ i, w1.frozen? ⟨w.heap.size + 1, i, none⟩ = false := fun i => C1.frozen i
  have f2 : ∀ i, w1.frozen? ⟨w.heap.size + 1 + 1, i, none⟩ = false := fun i => C2.frozen i
  have hg1 := B1'.lt
  have hg2 := B2.lt
  have HF := Lib.hid ((((((hrow.set (p := ⟨w.heap.size + 1 + 1, 4, none⟩) (by simp; omega) (.slice (some ⟨g, 0, none⟩) n n)).set (p := ⟨w.heap.size + 1, 0, none⟩) (by simp; omega) (.int .i64 s)).set (p := ⟨w.heap.size + 1, 1, none⟩) (by simp; omega) (.int .i64 l)).set
    (p := ⟨w.heap.size + 1, 2, none⟩) (by simp; omega) (.int .i64 c)).set (p := ⟨w.heap.size + 1, 3, none⟩) (by simp; omega) (.int .i64 sh)).set (p := ⟨w.heap.size + 1, 4, none⟩) (by simp; omega) (.slice (some ⟨g, 0, none⟩) n n))
  have HB := Lib.hid ((((((hbw.setCell (p := ⟨w.heap.size + 1 + 1, 4, none⟩) (by simp; omega) (.slice (some ⟨g, 0, none⟩) n n)).setCell (p := ⟨w.heap.size + 1, 0, none⟩) (by simp) (.int .i64 s)).setCell (p := ⟨w.heap.size + 1, 1, none⟩) (by simp) (.int .i64 l)).setCell
    (p := ⟨w.heap.size + 1, 2, none⟩) (by simp) (.int .i64 c)).setCell (p := ⟨w.heap.size + 1, 3, none⟩) (by simp) (.int .i64 sh)).setCell (p := ⟨w.heap.size + 1, 4, none⟩) (by simp) (.slice (some ⟨g, 0, none⟩) n n))
  have HG : Hid (w.heap.size ≤ g) := Nat.le_trans hbW.size hg
  clear hrow hbw hb1 hg hbW B1' B2 C1 C2
  go_wp2
  exact bodyPost_ret (v := .agg #[.int .i64 s, .int .i64 l, .int .i64 c, .int .i64 sh, .slice (some ⟨g, 0, none⟩) n n]) (by simp [results, Tryz.results26, go_sem, c10, c11, c12, c13, c14]) rfl ⟨g, HG, rfl, HF, fun i => by simp [hfz.out i], by simp only [size_set]; exact hgl.out, HB⟩

theorem Row.write {w : World} {g n : Nat} {zs : List Int} (h : Row w w.heap.size (some ⟨g, 0, none⟩) n zs) (i : Nat) (k : Int) : Row (w.setCell ⟨g, i, none⟩ (.int .i64 k)) (w.setCell ⟨g, i, none⟩ (.int .i64 k)).heap.size (some ⟨g, 0, none⟩) n (zs.set i k) := by
  refine ⟨by simpa using h.1, fun hn => ?_⟩
  obtain ⟨b, o, hA, hb, hc⟩ := h.2 hn
  cases hA
  refine ⟨_, _, rfl, by rw [size_set]; exact hb, fun j hj => ?_⟩
  have hcj := hc j hj
  rw [Nat.zero_add] at hcj ⊢
  by_cases e : j = i
  · subst e
    rw [World.cell?_setCell_same _ _ _ hcj]
    simp [nth, h.1, hj]
  · rw [World.cell?_setCell_other _ _ _ _ (fun e' => e (by injection e' with _ e'; exact e'.symm)), hcj]
    simp [nth, show ¬ i = j by omega]

set_option maxHeartbeats 1000000 in
theorem markInts_is (g n cap : Nat) (k : Int) (zs : List Int) (w : World) (hn : n ≤ 4194304) (hk0 : 0 ≤ k) (hk1 : k ≤ 100000000) (hr : Row w w.heap.size (some ⟨g, 0, none⟩) n zs) (hf : ∀ i, w.frozen? ⟨g, i, none⟩ = false) :
    Calls Tryz.prog 91 #[.slice (some ⟨g, 0, none⟩) n cap, .int .i64 k] w fun e w' => e = .returned (.int .i64 (k + n)) ∧ w.grownBy w' (some g) := by
  have HR := Lib.hid hr
  have HF := Lib.hid hf
  clear hr hf
  go_enter Tryz.func91, Tryz.ntmps91
  go_wp2_with fail
  go_loopw [1, 5] (fun kv iv wr => ∃ (i : Nat) (k' : Int) (zs' : List Int), i ≤ n ∧ k + i = k' ∧ iv = .int .i64 i ∧ kv = .int .i64 k' ∧ Row wr wr.heap.size (some ⟨g, 0, none⟩) n zs' ∧ (∀ o, wr.frozen? ⟨g, o, none⟩ = false) ∧ w.grownBy wr (some g)) (fun _ i _ => n - (intOf i).toNat)
  case atStart => exact ⟨0, k, zs, Nat.zero_le _, by omega, rfl, rfl, HR.out, HF.out, grown_refl _ _⟩
  case round =>
    obtain ⟨i, k', zs', hi, hk', rfl, rfl, hrow, hfz, hg⟩ := hrel
    have hb : k' ≤ 200000000 := by omega
    have hb0 : 0 ≤ k' := by omega
    by_cases hlt : i < n
    · have hlt' : (i : Int) < (n : Int) := by omega
      obtain ⟨b, o, hA, hbB, hcell⟩ := hrow.2 (by omega)
      cases hA
      have c0 := hcell i hlt
      rw [Nat.zero_add] at c0
      have f0 := hfz i
      have HW := Lib.hid (hrow.write i k')
      have HFF := Lib.hid (show ∀ o, (wr.setCell ⟨g, i, none⟩ (.int .i64 k')).frozen? ⟨g, o, none⟩ = false from fun o => by simp [hfz o])
      have HG := Lib.hid (grown_set hg i (.int .i64 k'))
      replace hk' := Lib.hid hk'
      clear hcell hfz hrow hg
      go_wp2
      go_roundw
      case rel => exact ⟨i + 1, k' + 1, zs'.set i k', by omega, by have := hk'.out; omega, by go_num, rfl, HW.out, HFF.out, HG.out⟩
      case measure => simp [intOf]; omega
    · obtain rfl : i = n := by omega
      replace hk' := Lib.hid hk'
      go_wp2
      go_ret
      exact ⟨by rw [hk'.out]; rfl, hg⟩
theorem markGroup_is (s l c sh : Int) (g n cap : Nat) (k : Int) (zs : List Int) (w : World) (hn : n ≤ 4194304) (hk0 : 0 ≤ k) (hk1 : k ≤ 100000000) (hr : Row w w.heap.size (some ⟨g, 0, none⟩) n zs) (hf : ∀ i, w.frozen? ⟨g, i, none⟩ = false) (hg : g < w.heap.size) :
    Calls Tryz.prog 34 #[.agg #[.int .i64 s, .int .i64 l, .int .i64 c, .int .i64 sh, .slice (some ⟨g, 0, none⟩) n cap], .int .i64 k] w fun e w' => e = .returned (.int .i64 (k + n)) ∧ w.grownBy w' (some g) := by
  have E0 := bel_alloc w (.cells #[.int .i64 s, .int .i64 l, .int .i64 c, .int .i64 sh, .slice (some ⟨g, 0, none⟩) n cap] 26)
  have DG := Box.new w 26 #[.int .i64 s, .int .i64 l, .int .i64 c, .int .i64 sh, .slice (some ⟨g, 0, none⟩) n cap]
  have HR := Lib.hid ((hr.below E0 (Nat.le_refl _)).more E0.size)
  have HF := Lib.hid (show ∀ i, (w.alloc (.cells #[.int .i64 s, .int .i64 l, .int .i64 c, .int .i64 sh, .slice (some ⟨g, 0, none⟩) n cap] 26)).frozen? ⟨g, i, none⟩ = false from fun i => (E0.frozen (p := ⟨g, i, none⟩) hg).trans (hf i))
  clear hr hf
  obtain ⟨d0, d1, d2, d3, d4⟩ := DG.five
  go_enter Tryz.func34, Tryz.ntmps34
  go_wp2_with fail
  generalize (w.alloc _ : World) = w1 at E0 DG HR HF d0 d1 d2 d3 d4 ⊢
  refine (markInts_is g n cap k zs w1 hn hk0 hk1 HR.out HF.out).mono ?_
  rintro e w2 ⟨rfl, hg2⟩
  go_wp2
  go_ret
  exact ⟨rfl, grown_trans (grown_bel E0 _) hg2⟩

end Go.Proofs.YtjdepjpjjgkmbaaGreat
