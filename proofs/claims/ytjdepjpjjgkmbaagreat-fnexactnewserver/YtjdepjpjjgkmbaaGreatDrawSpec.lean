/- What the model's draws of chapter 1 leave: contracts of each function of l01_draw.go that the laws reach. -/
import Derived.Test.YtjdepjpjjgkmbaaGreatChecked
import Derived.Test.YtjdepjpjjgkmbaaGreatBase
import Derived.WalkKit
import Derived.OwnWalk
import Derived.Outline
import Derived.Deep.QuietTactic
import Derived.BigQuiet
import Derived.Deep.RegionHeld3
import Derived.IntWalk
import Derived.Test.YtjdepjpjjgkmbaaGreatStampBase
import Derived.Deep.AppendLies
import Derived.Laws.Pointers
import Derived.Deep.RegionLaw
import Derived.RegionTactic
namespace Go.Proofs.YtjdepjpjjgkmbaaGreat
open Go.RowKit

set_option maxHeartbeats 1000000 in
theorem l1Byte_any (g : Nat) (A : Option Addr) (n cap : Nat) (w : World) (hc : Cur w 169 .i64 g A n cap) :
    Calls Tryz.prog 128 #[.pointer (some ⟨g, 0, none⟩)] w (Drawn (fun r => 0 ≤ r ∧ r ≤ 255) 169 .i64 g A n cap w) := by
  obtain ⟨hn, hB, i, h, hi0, hi1, hbox⟩ := hc
  obtain ⟨c0, c1, c2⟩ := hbox.three
  have f1 := hbox.frozen 1
  have f2 := hbox.frozen 2
  go_enter Tryz.func128, Tryz.ntmps128
  go_wp2_with fail
  have hb1 := hbox.set 2 (.int .i64 (wrap64 (wrap64 (h * 6364136223846793005) + 1442695040888963407)))
  have hg1 := grown_set (grown_refl w (some g)) 2 (.int .i64 (wrap64 (wrap64 (h * 6364136223846793005) + 1442695040888963407)))
  generalize wrap64 (wrap64 (h * 6364136223846793005) + 1442695040888963407) = h1 at hb1 hg1 ⊢
  generalize wrap64 (h * 6364136223846793005) = h0
  have hB1 := hB.kept hg1 (Nat.le_of_lt hbox.lt) (fun k hk => by injection hk with hk; omega)
  generalize w.setCell ⟨g, 2, none⟩ (.int .i64 h1) = w1 at hb1 hg1 hB1 ⊢
  have hb1 : Box w1 g 169 #[.slice A n cap, .int .i64 i, .int .i64 h1] := hb1
  clear c0 c1 c2 f1 f2 hbox hB
  obtain ⟨c0, c1, c2⟩ := hb1.three
  have f1 := hb1.frozen 1
  by_cases hlt : i < n
  · obtain ⟨b, o, rfl, hbg, hcell⟩ := hB1 (by omega)
    obtain ⟨j, rfl⟩ := Int.eq_ofNat_of_zero_le hi0
    obtain ⟨z, hz0, hz1, hz⟩ := hcell j (by omega)
    have HB := Lib.hid hB1
    clear hcell hB1
    go_quiet (fail)
    go_wp2_with fail
    have hx := and_255 (bits .xor .i64 (h1 / 8589934592) (h1 / 35184372088832))
    generalize bits .and .i64 (bits .xor .i64 (h1 / 8589934592) (h1 / 35184372088832)) 255 = x at hx ⊢
    generalize bits .xor .i64 (h1 / 8589934592) (h1 / 35184372088832) = x0
    obtain ⟨hx0, hx1⟩ := hx
    go_quiet (fail)
    go_wp2_with fail
    go_quiet (fail)
    go_wp2_with fail
    go_ret
    exact ⟨_, and_255 _, rfl, ⟨hn, (HB.out.drewN _).set _ _, (j : Int) + 1, h1, by omega, by omega, (hb1.drewN _).set 1 _⟩, grown_set (grown_drewN hg1 _) _ _⟩
  · have hd : decide (i < (n : Int)) = false := by simpa using hlt
    have HB := Lib.hid hB1
    clear hB1
    go_quiet (fail)
    go_wp2_with fail
    have hx := and_255 (bits .xor .i64 (h1 / 8589934592) (h1 / 35184372088832))
    generalize bits .and .i64 (bits .xor .i64 (h1 / 8589934592) (h1 / 35184372088832)) 255 = x at hx ⊢
    generalize bits .xor .i64 (h1 / 8589934592) (h1 / 35184372088832) = x0
    go_quiet (fail)
    go_wp2
    go_ret
    exact ⟨x, hx, rfl, ⟨hn, HB.out, i, h1, hi0, hi1, hb1⟩, grown_drewN (grown_drewN hg1 _) _⟩

theorem l1Below_any (g : Nat) (A : Option Addr) (n cap : Nat) (m : Int) (w : World) (hm : 0 < m) (hc : Cur w 169 .i64 g A n cap) :
    Calls Tryz.prog 67 #[.pointer (some ⟨g, 0, none⟩), .int .i64 m] w (Drawn (fun r => 0 ≤ r ∧ r < m) 169 .i64 g A n cap w) := by
  by_cases hs : m ≤ 256
  · go_enter Tryz.func67, Tryz.ntmps67
    go_wp2_with fail
    refine (l1Byte_any g A n cap _ hc).mono ?_
    rintro e w1 ⟨r, ⟨hr0, hr1⟩, rfl, hc1, hg1⟩
    have hmod := Int.emod_nonneg r (by omega : m ≠ 0)
    have hmod' := Int.emod_lt_of_pos r hm
    go_wp2
    go_ret
    exact ⟨_, ⟨hmod, hmod'⟩, rfl, hc1, hg1⟩
  · go_enter Tryz.func67, Tryz.ntmps67
    go_wp2_with fail
    refine (l1Byte_any g A n cap _ hc).mono ?_
    rintro e w1 ⟨x, ⟨hx0, hx1⟩, rfl, hc1, hg1⟩
    go_wp2_with fail
    refine (l1Byte_any g A n cap _ hc1).mono ?_
    rintro e w2 ⟨y, ⟨hy0, hy1⟩, rfl, hc2, hg2⟩
    go_wp2_with fail
    refine (l1Byte_any g A n cap _ hc2).mono ?_
    rintro e w3 ⟨z, ⟨hz0, hz1⟩, rfl, hc3, hg3⟩
    go_wp2_with fail
    refine (l1Byte_any g A n cap _ hc3).mono ?_
    rintro e w4 ⟨u, ⟨hu0, hu1⟩, rfl, hc4, hg4⟩
    have hmod := Int.emod_nonneg (x * 16777216 + y * 65536 + z * 256 + u) (by omega : m ≠ 0)
    have hmod' := Int.emod_lt_of_pos (x * 16777216 + y * 65536 + z * 256 + u) hm
    go_wp2
    go_ret
    exact ⟨_, ⟨hmod, hmod'⟩, rfl, hc4, grown_trans (grown_trans (grown_trans hg1 hg2) hg3) hg4⟩

/-- A draw that answers yes or no. -/
def DrawnB (t : TypeId) (k : IntKind) (g : Nat) (A : Option Addr) (n cap : Nat) (w : World) (e : Ending) (w' : World) : Prop :=
  ∃ b : Bool, e = .returned (.bool b) ∧ Cur w' t k g A n cap ∧ w.grownBy w' (some g)

theorem l1Once_any (g : Nat) (A : Option Addr) (n cap : Nat) (m : Int) (w : World) (hm : 0 < m) (hc : Cur w 169 .i64 g A n cap) :
    Calls Tryz.prog 68 #[.pointer (some ⟨g, 0, none⟩), .int .i64 m] w (DrawnB 169 .i64 g A n cap w) := by
  go_enter Tryz.func68, Tryz.ntmps68
  go_wp2_with fail
  refine (l1Below_any g A n cap m _ hm hc).mono ?_
  rintro e w1 ⟨r, _, rfl, hc1, hg1⟩
  go_wp2
  go_ret
  exact ⟨_, rfl, hc1, hg1⟩

theorem l1Min_any (a b : Int) (w : World) : Calls Tryz.prog 186 #[.int .i64 a, .int .i64 b] w fun e w' => e = .returned (.int .i64 (min a b)) ∧ w = w' := by
  by_cases h : a < b
  · have e : Hid (min a b = a) := by show min a b = a; omega
    go_enter Tryz.func186, Tryz.ntmps186
    go_wp2
    go_ret
    exact ⟨by rw [e.out]; rfl, rfl⟩
  · have e : Hid (min a b = b) := by show min a b = b; omega
    go_enter Tryz.func186, Tryz.ntmps186
    go_wp2
    go_ret
    exact ⟨by rw [e.out]; rfl, rfl⟩

set_option maxHeartbeats 400000 in
theorem l1Odd_any (g : Nat) (A : Option Addr) (n cap : Nat) (w : World) (hc : Cur w 169 .i64 g A n cap) :
    Calls Tryz.prog 185 #[.pointer (some ⟨g, 0, none⟩)] w (Drawn (fun _ => True) 169 .i64 g A n cap w) := by
  go_enter Tryz.func185, Tryz.ntmps185
  have B0 : Box _ w.heap.size 2 ((List.map (Value.int .i64) [-1, 0, 1, 2147483648, -2147483648, 1099511627776, 4611686018427387904, -4611686018427387904, 9223372036854775807, -9223372036854775808]).toArray) :=
    Box.new w 2 #[.int .i64 (-1), .int .i64 0, .int .i64 1, .int .i64 2147483648, .int .i64 (-2147483648), .int .i64 1099511627776, .int .i64 4611686018427387904, .int .i64 (-4611686018427387904), .int .i64 9223372036854775807, .int .i64 (-9223372036854775808)]
  have hg0 := grown_bel (bel_alloc w (.cells #[.int .i64 (-1), .int .i64 0, .int .i64 1, .int .i64 2147483648, .int .i64 (-2147483648), .int .i64 1099511627776, .int .i64 4611686018427387904, .int .i64 (-4611686018427387904), .int .i64 9223372036854775807, .int .i64 (-9223372036854775808)] 2)) (some g)
  have hc0 := hc.kept (grown_bel (bel_alloc w (.cells #[.int .i64 (-1), .int .i64 0, .int .i64 1, .int .i64 2147483648, .int .i64 (-2147483648), .int .i64 1099511627776, .int .i64 4611686018427387904, .int .i64 (-4611686018427387904), .int .i64 9223372036854775807, .int .i64 (-9223372036854775808)] 2)) none) (fun q hq => by cases hq)
  have hlt := hc.lt
  go_wp2_with fail
  generalize (w.alloc _ : World) = w0 at B0 hg0 hc0 ⊢
  refine (l1Below_any g A n cap 10 _ (by omega) hc0).mono ?_
  rintro e w1 ⟨r, ⟨hr0, hr1⟩, rfl, hc1, hg1⟩
  obtain ⟨j, rfl⟩ := Int.eq_ofNat_of_zero_le hr0
  have B1 := B0.kept hg1 (by intro e; injection e with e; omega)
  have hcell := B1.ints (i := j) (by simp; omega)
  generalize nth _ j = z at hcell
  clear B0 B1
  go_wp2
  go_ret
  exact ⟨z, trivial, rfl, hc1, grown_trans hg0 hg1⟩

set_option maxHeartbeats 400000 in
theorem l1Num_any (g : Nat) (A : Option Addr) (n cap : Nat) (m : Int) (w : World) (hm0 : 0 ≤ m) (hm1 : m ≤ 4000000000) (hc : Cur w 169 .i64 g A n cap) :
    Calls Tryz.prog 138 #[.pointer (some ⟨g, 0, none⟩), .int .i64 m] w (Drawn (fun _ => True) 169 .i64 g A n cap w) := by
  go_enter Tryz.func138, Tryz.ntmps138
  go_wp2_with fail
  refine (l1Once_any g A n cap 10 _ (by omega) hc).mono ?_
  rintro e w1 ⟨b, rfl, hc1, hg1⟩
  rcases b with _ | _
  · go_wp2_with fail
    refine (l1Once_any g A n cap 2 _ (by omega) hc1).mono ?_
    rintro e w2 ⟨b, rfl, hc2, hg2⟩
    have hg12 := grown_trans hg1 hg2
    clear hg1 hg2 hc1
    rcases b with _ | _
    · go_wp2_with fail
      refine (l1Below_any g A n cap (m + 1) _ (by omega) hc2).mono ?_
      rintro e w3 ⟨r, _, rfl, hc3, hg3⟩
      go_wp2
      go_ret
      exact ⟨_, trivial, rfl, hc3, grown_trans hg12 hg3⟩
    · go_wp2_with fail
      refine (l1Min_any m 4 _).mono ?_
      rintro e w' ⟨rfl, rfl⟩
      have hmin0 : 0 ≤ min m 4 := by omega
      have hmin1 : min m 4 ≤ 4 := by omega
      generalize min m 4 = q at hmin0 hmin1 ⊢
      go_wp2_with fail
      refine (l1Below_any g A n cap (q + 1) _ (by omega) hc2).mono ?_
      rintro e w3 ⟨r, _, rfl, hc3, hg3⟩
      go_wp2
      go_ret
      exact ⟨_, trivial, rfl, hc3, grown_trans hg12 hg3⟩
  · go_wp2_with fail
    refine (l1Odd_any g A n cap _ hc1).mono ?_
    rintro e w2 ⟨x, _, rfl, hc2, hg2⟩
    have hg12 := grown_trans hg1 hg2
    clear hg1 hg2 hc1
    have B0 : Box _ w2.heap.size 2 ((List.map (Value.int .i64) [-1, m, m + 1, x]).toArray) := Box.new w2 2 #[.int .i64 (-1), .int .i64 m, .int .i64 (m + 1), .int .i64 x]
    have hb0 := bel_alloc w2 (.cells #[.int .i64 (-1), .int .i64 m, .int .i64 (m + 1), .int .i64 x] 2)
    have hlt := hc2.lt
    go_wp2_with fail
    generalize (w2.alloc _ : World) = w0 at B0 hb0 ⊢
    have hc0 := hc2.kept (grown_bel hb0 none) (fun q hq => by cases hq)
    have hg0 := grown_trans hg12 (grown_bel hb0 (some g))
    refine (l1Below_any g A n cap 4 _ (by omega) hc0).mono ?_
    rintro e w3 ⟨r, ⟨hr0, hr1⟩, rfl, hc3, hg3⟩
    obtain ⟨j, rfl⟩ := Int.eq_ofNat_of_zero_le hr0
    have B1 := B0.kept hg3 (by intro e; injection e with e; omega)
    have hcell := B1.ints (i := j) (by simp; omega)
    generalize nth _ j = z at hcell
    clear B0 B1
    go_wp2
    go_ret
    exact ⟨z, trivial, rfl, hc3, grown_trans hg0 hg3⟩

/-- What makes a cursor leaves: a new one, over the same bytes. -/
def MadeCur (t : TypeId) (k : IntKind) (A : Option Addr) (n cap : Nat) (w : World) (e : Ending) (w' : World) : Prop :=
  ∃ g, w.heap.size ≤ g ∧ e = .returned (.pointer (some ⟨g, 0, none⟩)) ∧ Cur w' t k g A n cap ∧ Below w.heap.size w w'

set_option maxHeartbeats 400000 in
theorem l1New_any (A : Option Addr) (n cap : Nat) (w : World) (hn : n ≤ 4096) (hB : Bytes w w.heap.size A n) :
    Calls Tryz.prog 65 #[.slice A n cap] w (MadeCur 169 .i64 A n cap w) := by
  have HB := Lib.hid hB
  clear hB
  go_enter Tryz.func65, Tryz.ntmps65
  go_wp2_with fail
  go_loop [3, 4] (fun h i => ∃ (k : Nat) (x : Int), k ≤ n ∧ i = .int .i64 k ∧ h = .int .i64 x) (fun _ i => n - (intOf i).toNat)
  case atStart => exact ⟨0, _, Nat.zero_le _, rfl, rfl⟩
  case round =>
    obtain ⟨k, x, hk, rfl, rfl⟩ := hrel
    by_cases hlt : k < n
    · obtain ⟨b, o, hA, hbB, hcell⟩ := HB.out (by omega)
      subst hA
      obtain ⟨z, hz0, hz1, hz⟩ := hcell k hlt
      clear hcell
      go_wp2
      go_round
      case rel => exact ⟨k + 1, _, by omega, by go_num, rfl⟩
      case measure => simp [intOf]; omega
    · go_wp2
      go_ret
      exact ⟨_, Nat.le_refl _, rfl, ⟨hn, HB.out.below (bel_alloc _ _) (Nat.le_refl _), 0, x, by omega, by omega, Box.new _ _ _⟩, bel_alloc _ _⟩

end Go.Proofs.YtjdepjpjjgkmbaaGreat

/- What the model's draws of stamps leave: a stamp, two of them, a stamp and a number, a list of stamps; the cursor, or the bytes, can be read. -/
namespace Go.Proofs.YtjdepjpjjgkmbaaGreat
open Go.RowKit

theorem grown2 (w : World) (R : Nat) (v0 v1 : Value) : w.grownBy ((w.setCell ⟨R, 0, none⟩ v0).setCell ⟨R, 1, none⟩ v1) (some R) := grown_set (grown_set (grown_refl w (some R)) 0 v0) 1 v1

theorem l1From_any (g : Nat) (A : Option Addr) (n cap : Nat) (lo hi : Int) (w : World) (h0 : -1000000 ≤ lo) (h1 : lo ≤ hi) (h2 : hi ≤ 1000000) (hc : Cur w 169 .i64 g A n cap) :
    Calls Tryz.prog 139 #[.pointer (some ⟨g, 0, none⟩), .int .i64 lo, .int .i64 hi] w (Drawn (fun r => lo ≤ r ∧ r ≤ hi) 169 .i64 g A n cap w) := by
  go_enter Tryz.func139, Tryz.ntmps139
  go_wp2_with fail
  refine (l1Below_any g A n cap (hi - lo + 1) w (by omega) hc).mono ?_
  rintro e w1 ⟨r, ⟨hr0, hr1⟩, rfl, hc1, hg1⟩
  go_wp2
  go_ret
  exact ⟨lo + r, ⟨by omega, by omega⟩, rfl, hc1, hg1⟩

/-- What the draw of a stamp leaves. -/
def DrawnStamp (t : TypeId) (kd : IntKind) (g : Nat) (A : Option Addr) (n cap : Nat) (w : World) (e : Ending) (w' : World) : Prop :=
  ∃ c k : Int, e = .returned (.agg #[.int .i64 c, .int .i64 k]) ∧ Cur w' t kd g A n cap ∧ w.grownBy w' (some g)

set_option maxHeartbeats 400000 in
theorem l2Draw_any (g : Nat) (A : Option Addr) (n cap : Nat) (w : World) (hc : Cur w 169 .i64 g A n cap) :
    Calls Tryz.prog 187 #[.pointer (some ⟨g, 0, none⟩)] w (DrawnStamp 169 .i64 g A n cap w) := by
  have hlt := hc.lt
  have R0 := Box.new w 39 #[.int .i64 0, .int .i64 0]
  have hb0 := bel_alloc w (.cells #[.int .i64 0, .int .i64 0] 39)
  go_enter Tryz.func187, Tryz.ntmps187
  go_wp2_with fail
  generalize (w.alloc _ : World) = w0 at R0 hb0 ⊢
  have hc0 := hc.kept (grown_bel hb0 none) (fun q hq => by cases hq)
  have hg0 := grown_bel hb0 (some g)
  refine (l1Once_any g A n cap 5 _ (by omega) hc0).mono ?_
  rintro e w1 ⟨b, rfl, hc1, hg1⟩
  have R1 := R0.kept hg1 (by intro e; injection e with e; omega)
  have G1 := grown_trans hg0 hg1
  clear R0 hg0 hg1 hc0 hb0 hc
  rcases b with _ | _
  · go_wp2_with fail
    refine (l1Below_any g A n cap 3 _ (by omega) hc1).mono ?_
    rintro e w2 ⟨c, ⟨hc0, hc2⟩, rfl, hcu2, hg2⟩
    go_wp2_with fail
    refine (l1Below_any g A n cap 6 _ (by omega) hcu2).mono ?_
    rintro e w3 ⟨k, ⟨hk0, hk1⟩, rfl, hcu3, hg3⟩
    have R3 := R1.kept (grown_trans hg2 hg3) (by intro e; injection e with e; omega)
    have G3 := grown_trans (grown_trans G1 hg2) hg3
    obtain ⟨r0, r1⟩ := R3.two
    have fr := R3.frozen
    have HC := Lib.hid (hcu3.kept (grown2 w3 w.heap.size (.int .i64 (1 + c)) (.int .i64 k)) (fun q hq => by injection hq with hq; omega))
    have HG := Lib.hid (grown_far G3 (grown2 w3 w.heap.size (.int .i64 (1 + c)) (.int .i64 k)) (fun q hq => by injection hq with hq; omega))
    go_wp2
    exact bodyPost_ret (v := .agg #[.int .i64 (1 + c), .int .i64 k]) (by simp [results, Tryz.results187, go_sem, r0, r1]) rfl ⟨_, _, rfl, HC.out, HG.out⟩
  · obtain ⟨r0, r1⟩ := R1.two
    have fr := R1.frozen
    have HC := Lib.hid (hc1.kept (grown2 w1 w.heap.size (.int .i64 0) (.int .i64 0)) (fun q hq => by injection hq with hq; omega))
    have HG := Lib.hid (grown_far G1 (grown2 w1 w.heap.size (.int .i64 0) (.int .i64 0)) (fun q hq => by injection hq with hq; omega))
    go_wp2
    exact bodyPost_ret (v := .agg #[.int .i64 0, .int .i64 0]) (by simp [results, Tryz.results187, go_sem, r0, r1]) rfl ⟨_, _, rfl, HC.out, HG.out⟩

set_option maxHeartbeats 1000000 in
theorem l2DrawAny_any (g : Nat) (A : Option Addr) (n cap : Nat) (w : World) (hc : Cur w 169 .i64 g A n cap) :
    Calls Tryz.prog 140 #[.pointer (some ⟨g, 0, none⟩)] w (DrawnStamp 169 .i64 g A n cap w) := by
  have hlt := hc.lt
  have R0 := Box.new w 39 #[.int .i64 0, .int .i64 0]
  have hb0 := bel_alloc w (.cells #[.int .i64 0, .int .i64 0] 39)
  go_enter Tryz.func140, Tryz.ntmps140
  go_wp2_with fail
  generalize (w.alloc _ : World) = w0 at R0 hb0 ⊢
  have hc0 := hc.kept (grown_bel hb0 none) (fun q hq => by cases hq)
  have hg0 := grown_bel hb0 (some g)
  refine (l2Draw_any g A n cap _ hc0).mono ?_
  rintro e w1 ⟨c, k, rfl, hc1, hg1⟩
  have R1 := R0.kept hg1 (by intro e; injection e with e; omega)
  have G1 := grown_trans hg0 hg1
  clear R0 hg0 hg1 hc0 hb0 hc
  have S1 := Box.new w1 39 #[.int .i64 c, .int .i64 k]
  have hb2 := bel_alloc w1 (.cells #[.int .i64 c, .int .i64 k] 39)
  have hR1 := R1.lt
  go_wp2_with fail
  have R2 := R1.later hb2 R1.lt
  have G2 := grown_trans G1 (grown_bel hb2 (some g))
  have hc2 := hc1.kept (grown_bel hb2 none) (fun q hq => by cases hq)
  generalize (w1.alloc _ : World) = w2 at S1 hb2 R2 G2 hc2 ⊢
  generalize w1.heap.size = S at S1 hR1 ⊢
  refine (l1Once_any g A n cap 6 _ (by omega) hc2).mono ?_
  rintro e w3 ⟨b, rfl, hc3, hg3⟩
  have R3 := R2.kept hg3 (by intro e; injection e with e; omega)
  have S3 := S1.kept hg3 (by intro e; injection e with e; omega)
  have G3 := grown_trans G2 hg3
  clear R1 R2 S1 G1 G2 hg3 hc1 hc2 hb2
  have hSR : S ≠ w.heap.size := by omega
  rcases b with _ | _
  · obtain ⟨r0, r1⟩ := R3.two
    obtain ⟨s0, s1⟩ := S3.two
    have fr := R3.frozen
    have HC := Lib.hid (hc3.kept (grown2 w3 w.heap.size (.int .i64 c) (.int .i64 k)) (fun q hq => by injection hq with hq; omega))
    have HG := Lib.hid (grown_far G3 (grown2 w3 w.heap.size (.int .i64 c) (.int .i64 k)) (fun q hq => by injection hq with hq; omega))
    go_wp2
    exact bodyPost_ret (v := .agg #[.int .i64 c, .int .i64 k]) (by simp [results, Tryz.results140, go_sem, r0, r1]) rfl ⟨_, _, rfl, HC.out, HG.out⟩
  · go_wp2_with fail
    refine (l1Once_any g A n cap 2 _ (by omega) hc3).mono ?_
    rintro e w4 ⟨b, rfl, hc4, hg4⟩
    have R4 := R3.kept hg4 (by intro e; injection e with e; omega)
    have S4 := S3.kept hg4 (by intro e; injection e with e; omega)
    have G4 := grown_trans G3 hg4
    clear R3 S3 G3 hg4 hc3
    rcases b with _ | _
    · go_wp2_with fail
      refine (l1Num_any g A n cap 15 _ (by omega) (by omega) hc4).mono ?_
      rintro e w5 ⟨y, _, rfl, hc5, hg5⟩
      have R5 := R4.kept hg5 (by intro e; injection e with e; omega)
      have S5 := S4.kept hg5 (by intro e; injection e with e; omega)
      have G5 := grown_trans G4 hg5
      clear R4 S4 G4 hg5 hc4
      obtain ⟨r0, r1⟩ := R5.two
      obtain ⟨s0, s1⟩ := S5.two
      have fr := R5.frozen
      have fs := S5.frozen
      have hset := grown_set (grown_refl w5 (some S)) 1 (.int .i64 y)
      have hset2 := grown2 (w5.setCell ⟨S, 1, none⟩ (.int .i64 y)) w.heap.size (.int .i64 c) (.int .i64 y)
      have HC := Lib.hid ((hc5.kept hset (fun q hq => by injection hq with hq; omega)).kept hset2 (fun q hq => by injection hq with hq; omega))
      have HG := Lib.hid (grown_far (grown_far G5 hset (fun q hq => by injection hq with hq; omega)) hset2 (fun q hq => by injection hq with hq; omega))
      clear hset hset2
      go_wp2
      exact bodyPost_ret (v := .agg #[.int .i64 c, .int .i64 y]) (by simp [results, Tryz.results140, go_sem, r0, r1]) rfl ⟨_, _, rfl, HC.out, HG.out⟩
    · go_wp2_with fail
      refine (l1Num_any g A n cap 100000 _ (by omega) (by omega) hc4).mono ?_
      rintro e w5 ⟨y, _, rfl, hc5, hg5⟩
      have R5 := R4.kept hg5 (by intro e; injection e with e; omega)
      have S5 := S4.kept hg5 (by intro e; injection e with e; omega)
      have G5 := grown_trans G4 hg5
      clear R4 S4 G4 hg5 hc4
      obtain ⟨r0, r1⟩ := R5.two
      obtain ⟨s0, s1⟩ := S5.two
      have fr := R5.frozen
      have fs := S5.frozen
      have hset := grown_set (grown_refl w5 (some S)) 0 (.int .i64 y)
      have hset2 := grown2 (w5.setCell ⟨S, 0, none⟩ (.int .i64 y)) w.heap.size (.int .i64 y) (.int .i64 k)
      have HC := Lib.hid ((hc5.kept hset (fun q hq => by injection hq with hq; omega)).kept hset2 (fun q hq => by injection hq with hq; omega))
      have HG := Lib.hid (grown_far (grown_far G5 hset (fun q hq => by injection hq with hq; omega)) hset2 (fun q hq => by injection hq with hq; omega))
      clear hset hset2
      go_wp2
      exact bodyPost_ret (v := .agg #[.int .i64 y, .int .i64 k]) (by simp [results, Tryz.results140, go_sem, r0, r1]) rfl ⟨_, _, rfl, HC.out, HG.out⟩

end Go.Proofs.YtjdepjpjjgkmbaaGreat

/- A variable made ahead of a call whose contract speaks of a world: what is known then; no conditions. -/
namespace Go.Proofs.YtjdepjpjjgkmbaaGreat
open Go.RowKit

theorem rowNew {w : World} {A : Option Addr} {n : Nat} {zs : List Int} (h : Row w w.heap.size A n zs) (o : Obj) : Row (w.alloc o) (w.alloc o).heap.size A n zs :=
  (h.below (bel_alloc w o) (Nat.le_refl _)).more (bel_alloc w o).size
theorem bel_of_alloc {w w' : World} {o : Obj} (h : Below (w.alloc o).heap.size (w.alloc o) w') : Below w.heap.size w w' := bel_trans (bel_alloc w o) h
theorem box_of_alloc {w w' : World} {t : TypeId} {cs : Array Value} (h : Below (w.alloc (.cells cs t)).heap.size (w.alloc (.cells cs t)) w') : Box w' w.heap.size t cs :=
  (Box.new w t cs).later h (by simp)
/-- A variable of two cells, written. -/
theorem Box.put2 {w : World} {g : Nat} {t : TypeId} {a b : Value} (h : Box w g t #[a, b]) (u v : Value) : Box ((w.setCell ⟨g, 0, none⟩ u).setCell ⟨g, 1, none⟩ v) g t #[u, v] := (h.set 0 u).set 1 v
theorem Box.put5 {w : World} {g : Nat} {t : TypeId} {a b c d e : Value} (h : Box w g t #[a, b, c, d, e]) (u0 u1 u2 u3 u4 : Value) : Box (((((w.setCell ⟨g, 0, none⟩ u0).setCell ⟨g, 1, none⟩ u1).setCell ⟨g, 2, none⟩ u2).setCell ⟨g, 3, none⟩ u3).setCell ⟨g, 4, none⟩ u4) g t #[u0, u1, u2, u3, u4] := ((((h.set 0 u0).set 1 u1).set 2 u2).set 3 u3).set 4 u4
theorem bel_put2 {w w' : World} {B g : Nat} (h : Below B w w') (hg : B ≤ g) (u v : Value) : Below B w ((w'.setCell ⟨g, 0, none⟩ u).setCell ⟨g, 1, none⟩ v) := (h.setCell hg u).setCell hg v
theorem Box.far2 {w : World} {g R : Nat} {t : TypeId} {cs : Array Value} (h : Box w g t cs) (hR : R ≠ g) (u v : Value) : Box ((w.setCell ⟨R, 0, none⟩ u).setCell ⟨R, 1, none⟩ v) g t cs :=
  (h.far (p := ⟨R, 0, none⟩) hR u).far (p := ⟨R, 1, none⟩) hR v

theorem twelve {w : World} {g g' g'' : Nat} {t t' t'' : TypeId} {v0 v1 v2 v3 v4 u0 u1 u2 u3 u4 y0 y1 : Value} (h : Box w g t #[v0, v1, v2, v3, v4]) (h' : Box w g' t' #[u0, u1, u2, u3, u4]) (h'' : Box w g'' t'' #[y0, y1]) :
    w.cell? ⟨g, 0, none⟩ = some v0 ∧ w.cell? ⟨g, 1, none⟩ = some v1 ∧ w.cell? ⟨g, 2, none⟩ = some v2 ∧ w.cell? ⟨g, 3, none⟩ = some v3 ∧ w.cell? ⟨g, 4, none⟩ = some v4 ∧
    w.cell? ⟨g', 0, none⟩ = some u0 ∧ w.cell? ⟨g', 1, none⟩ = some u1 ∧ w.cell? ⟨g', 2, none⟩ = some u2 ∧ w.cell? ⟨g', 3, none⟩ = some u3 ∧ w.cell? ⟨g', 4, none⟩ = some u4 ∧ w.cell? ⟨g'', 0, none⟩ = some y0 ∧ w.cell? ⟨g'', 1, none⟩ = some y1 :=
  ⟨h.cell 0, h.cell 1, h.cell 2, h.cell 3, h.cell 4, h'.cell 0, h'.cell 1, h'.cell 2, h'.cell 3, h'.cell 4, h''.cell 0, h''.cell 1⟩

end Go.Proofs.YtjdepjpjjgkmbaaGreat

/- What the model's draws of claims leave: a claim, and the cursor further on; the cursor is a right one. -/
namespace Go.Proofs.YtjdepjpjjgkmbaaGreat
open Go.RowKit

/-- What the draw of a claim leaves. -/
def DrawnClaim (t : TypeId) (kd : IntKind) (g : Nat) (A : Option Addr) (n cap : Nat) (w : World) (e : Ending) (w' : World) : Prop :=
  ∃ ck ch ct cq cv : Int, e = .returned (.agg #[.int .i64 ck, .int .i64 ch, .int .i64 ct, .int .i64 cq, .int .i64 cv]) ∧ Cur w' t kd g A n cap ∧ w.grownBy w' (some g)

end Go.Proofs.YtjdepjpjjgkmbaaGreat

/- What the model's draws out of the code leave, chapter 2: two stamps, a stamp and a client, a list of stamps; the bytes can be read. -/
namespace Go.Proofs.YtjdepjpjjgkmbaaGreat
open Go.RowKit

/-- Two stamps. -/
def MadeTwo (w : World) (e : Ending) (w' : World) : Prop :=
  ∃ a b c d : Int, e = .returned (.tuple #[.agg #[.int .i64 a, .int .i64 b], .agg #[.int .i64 c, .int .i64 d]]) ∧ Below w.heap.size w w'

/-- A stamp and a number. -/
def MadeOneNum (w : World) (e : Ending) (w' : World) : Prop :=
  ∃ a b x : Int, e = .returned (.tuple #[.agg #[.int .i64 a, .int .i64 b], .int .i64 x]) ∧ Below w.heap.size w w'

/-- The cells of a list of pairs. -/
def flatP (ps : List (Int × Int)) : List Value := ps.flatMap fun p => [.int .i64 p.1, .int .i64 p.2]
theorem flatP_len (ps : List (Int × Int)) : (flatP ps).length = ps.length * 2 := by
  induction ps with
  | nil => rfl
  | cons p ps ih => show (flatP ps).length + 1 + 1 = _; rw [ih, List.length_cons]; omega
theorem flatP_snoc (ps : List (Int × Int)) (x y : Int) : flatP (ps ++ [(x, y)]) = flatP ps ++ [.int .i64 x, .int .i64 y] := by simp [flatP]
theorem flatP_at {ps : List (Int × Int)} {i : Nat} (h : i < ps.length) : (flatP ps)[i * 2]? = some (.int .i64 (pth ps i).1) ∧ (flatP ps)[i * 2 + 1]? = some (.int .i64 (pth ps i).2) := by
  induction ps generalizing i with
  | nil => simp at h
  | cons p ps ih =>
    have e : flatP (p :: ps) = .int .i64 p.1 :: .int .i64 p.2 :: flatP ps := rfl
    rcases i with _ | i
    · exact ⟨rfl, rfl⟩
    · have := ih (i := i) (by simpa using h)
      rw [e, show (i + 1) * 2 = i * 2 + 1 + 1 by omega]
      simp only [List.getElem?_cons_succ]
      have ep : pth (p :: ps) (i + 1) = pth ps i := by simp [pth]
      rw [ep]
      exact this
theorem own_pairs {w : World} {base : Nat} {e : TypeId} {q cap : Nat} {ps : List (Int × Int)} (h : w.ownsRow base e 2 (.slice (some ⟨q, 0, none⟩) ps.length cap) ps.length (flatP ps)) : Pairs w w.heap.size (some ⟨q, 0, none⟩) ps.length ps := by
  refine ⟨rfl, fun _ => ⟨q, 0, rfl, (h.lt q rfl).2, fun i hi => ?_⟩⟩
  rw [Nat.zero_add, h.cellAt (i * 2) (by omega), h.cellAt (i * 2 + 1) (by omega)]
  exact flatP_at hi

theorem Tryz.infoStampI : (Tryz.prog.info? 39).map (fun i => (i.zero, i.size, i.bytes)) = some (some (.agg #[.int .i64 0, .int .i64 0]), 2, 16) := by kernel_rfl

/-- A list of at most m pairs, made anew. -/
def MadeList (m : Nat) (w : World) (e : Ending) (w' : World) : Prop :=
  ∃ (q cap' : Nat) (ps : List (Int × Int)), e = .returned (.slice (some ⟨q, 0, none⟩) ps.length cap') ∧ Pairs w' w'.heap.size (some ⟨q, 0, none⟩) ps.length ps ∧ ps.length ≤ m ∧ Below w.heap.size w w'

/-- The loop's state: at most k more are drawn. -/
def StampsUp (w wr : World) (t tc : TypeId) (g : Nat) (A : Option Addr) (n cap k : Nat) (v : Value) : Prop :=
  ∃ (q cap' : Nat) (ps : List (Int × Int)), v = .slice (some ⟨q, 0, none⟩) ps.length cap' ∧ ps.length + k ≤ 5 ∧ Cur wr tc .i64 g A n cap ∧ wr.ownsRow (g + 1) t 2 (.slice (some ⟨q, 0, none⟩) ps.length cap') ps.length (flatP ps) ∧ Below w.heap.size w wr

end Go.Proofs.YtjdepjpjjgkmbaaGreat

/- The cells of a list of pairs, one behind the other; no conditions. -/
namespace Go.Proofs.YtjdepjpjjgkmbaaGreat
open Go.RowKit

theorem Tryz.infoSealI : (Tryz.prog.info? 136).map (fun i => (i.zero, i.size, i.bytes)) = some (some (.agg #[.int .i64 0, .int .i64 0]), 2, 16) := by kernel_rfl

/-- The cells of a slice of pairs. -/
theorem pairs_news {w : World} {B : Nat} {b o n : Nat} {ps : List (Int × Int)} (h : Pairs w B (some ⟨b, o, none⟩) n ps) : ∀ j u, (flatP ps)[j]? = some u → w.cell? ((⟨b, o, none⟩ : Addr).add j) = some u := by
  intro j u hu
  have hj : j < ps.length * 2 := by
    rw [← flatP_len]
    rcases Nat.lt_or_ge j (flatP ps).length with h' | h'
    · exact h'
    · rw [List.getElem?_eq_none h'] at hu; cases hu
  rw [h.1] at hj
  obtain ⟨b', o', hA, _, hc⟩ := h.2 (by omega)
  cases hA
  rw [show (⟨b, o, none⟩ : Addr).add j = ⟨b, o + j, none⟩ by unfold Addr.add; split <;> simp_all]
  have h2 : j % 2 = 0 ∨ j % 2 = 1 := by omega
  rcases h2 with h2 | h2
  · obtain ⟨k, rfl⟩ : ∃ k, j = k * 2 := ⟨j / 2, by omega⟩
    rw [(hc k (by omega)).1]
    rw [(flatP_at (by rw [h.1]; omega)).1] at hu
    exact hu
  · obtain ⟨k, rfl⟩ : ∃ k, j = k * 2 + 1 := ⟨j / 2, by omega⟩
    rw [← Nat.add_assoc, (hc k (by omega)).2]
    rw [(flatP_at (by rw [h.1]; omega)).2] at hu
    exact hu
theorem flatP_one (ps : List (Int × Int)) : ∀ u ∈ flatP ps, u.oneCell' = true := by
  intro u hu
  simp only [flatP, List.mem_flatMap] at hu
  obtain ⟨p, _, hp⟩ := hu
  simp only [List.mem_cons, List.not_mem_nil, or_false] at hp
  rcases hp with rfl | rfl <;> rfl
theorem flatP_app (a b : List (Int × Int)) : flatP (a ++ b) = flatP a ++ flatP b := by simp [flatP]

end Go.Proofs.YtjdepjpjjgkmbaaGreat
