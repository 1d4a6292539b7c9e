/- What the model's draws of chapter 1 leave: contracts of each function of l01_draw.go that the laws reach. -/
import Derived.Test.YtgjbebfcbpfngaaDoorChecked
import Derived.Test.YtgjbebfcbpfngaaDoorDraw
import Derived.WalkKit
import Derived.OwnWalk
import Derived.Outline
import Derived.Deep.QuietTactic
import Derived.BigQuiet
import Derived.Deep.RegionHeld3
import Derived.IntWalk
namespace Go.Proofs.YtgjbebfcbpfngaaDoor
open Go.RowKit

set_option maxHeartbeats 1000000 in
theorem l1Byte_any (g : Nat) (A : Option Addr) (n cap : Nat) (w : World) (hc : Cur w 90 .i64 g A n cap) :
    Calls Tryd.prog 53 #[.pointer (some ⟨g, 0, none⟩)] w (Drawn (fun r => 0 ≤ r ∧ r ≤ 255) 90 .i64 g A n cap w) := by
  obtain ⟨hn, hB, i, h, hi0, hi1, hbox⟩ := hc
  obtain ⟨c0, c1, c2⟩ := hbox.three
  have f1 := hbox.frozen 1
  have f2 := hbox.frozen 2
  go_enter Tryd.func53, Tryd.ntmps53
  go_wp2_with fail
  have hb1 := hbox.set 2 (.int .i64 (wrap64 (wrap64 (h * 6364136223846793005) + 1442695040888963407)))
  have hg1 := grown_set (grown_refl w (some g)) 2 (.int .i64 (wrap64 (wrap64 (h * 6364136223846793005) + 1442695040888963407)))
  generalize wrap64 (wrap64 (h * 6364136223846793005) + 1442695040888963407) = h1 at hb1 hg1 ⊢
  generalize wrap64 (h * 6364136223846793005) = h0
  have hB1 := hB.kept hg1 (Nat.le_of_lt hbox.lt) (fun k hk => by injection hk with hk; omega)
  generalize w.setCell ⟨g, 2, none⟩ (.int .i64 h1) = w1 at hb1 hg1 hB1 ⊢
  have hb1 : Box w1 g 90 #[.slice A n cap, .int .i64 i, .int .i64 h1] := hb1
  clear c0 c1 c2 f1 f2 hbox hB
  obtain ⟨c0, c1, c2⟩ := hb1.three
  have f1 := hb1.frozen 1
  by_cases hlt : i < n
  · obtain ⟨b, o, rfl, hbg, hcell⟩ := hB1 (by omega)
    obtain ⟨j, rfl⟩ := Int.eq_ofNat_of_zero_le hi0
    obtain ⟨z, hz0, hz1, hz⟩ := hcell j (by omega)
    have HB := Lib.hid hB1
    clear hcell hB1
    go_quiet (fail)
    go_wp2_with fail
    have hx := and_255 (bits .xor .i64 (h1 / 8589934592) (h1 / 35184372088832))
    generalize bits .and .i64 (bits .xor .i64 (h1 / 8589934592) (h1 / 35184372088832)) 255 = x at hx ⊢
    generalize bits .xor .i64 (h1 / 8589934592) (h1 / 35184372088832) = x0
    obtain ⟨hx0, hx1⟩ := hx
    go_quiet (fail)
    go_wp2_with fail
    go_quiet (fail)
    go_wp2_with fail
    go_ret
    exact ⟨_, and_255 _, rfl, ⟨hn, (HB.out.drewN _).set _ _, (j : Int) + 1, h1, by omega, by omega, (hb1.drewN _).set 1 _⟩, grown_set (grown_drewN hg1 _) _ _⟩
  · have hd : decide (i < (n : Int)) = false := by simpa using hlt
    have HB := Lib.hid hB1
    clear hB1
    go_quiet (fail)
    go_wp2_with fail
    have hx := and_255 (bits .xor .i64 (h1 / 8589934592) (h1 / 35184372088832))
    generalize bits .and .i64 (bits .xor .i64 (h1 / 8589934592) (h1 / 35184372088832)) 255 = x at hx ⊢
    generalize bits .xor .i64 (h1 / 8589934592) (h1 / 35184372088832) = x0
    go_quiet (fail)
    go_wp2
    go_ret
    exact ⟨x, hx, rfl, ⟨hn, HB.out, i, h1, hi0, hi1, hb1⟩, grown_drewN (grown_drewN hg1 _) _⟩

theorem l1Below_any (g : Nat) (A : Option Addr) (n cap : Nat) (m : Int) (w : World) (hm : 0 < m) (hc : Cur w 90 .i64 g A n cap) :
    Calls Tryd.prog 52 #[.pointer (some ⟨g, 0, none⟩), .int .i64 m] w (Drawn (fun r => 0 ≤ r ∧ r < m) 90 .i64 g A n cap w) := by
  by_cases hs : m ≤ 256
  · go_enter Tryd.func52, Tryd.ntmps52
    go_wp2_with fail
    refine (l1Byte_any g A n cap _ hc).mono ?_
    rintro e w1 ⟨r, ⟨hr0, hr1⟩, rfl, hc1, hg1⟩
    have hmod := Int.emod_nonneg r (by omega : m ≠ 0)
    have hmod' := Int.emod_lt_of_pos r hm
    go_wp2
    go_ret
    exact ⟨_, ⟨hmod, hmod'⟩, rfl, hc1, hg1⟩
  · go_enter Tryd.func52, Tryd.ntmps52
    go_wp2_with fail
    refine (l1Byte_any g A n cap _ hc).mono ?_
    rintro e w1 ⟨x, ⟨hx0, hx1⟩, rfl, hc1, hg1⟩
    go_wp2_with fail
    refine (l1Byte_any g A n cap _ hc1).mono ?_
    rintro e w2 ⟨y, ⟨hy0, hy1⟩, rfl, hc2, hg2⟩
    go_wp2_with fail
    refine (l1Byte_any g A n cap _ hc2).mono ?_
    rintro e w3 ⟨z, ⟨hz0, hz1⟩, rfl, hc3, hg3⟩
    go_wp2_with fail
    refine (l1Byte_any g A n cap _ hc3).mono ?_
    rintro e w4 ⟨u, ⟨hu0, hu1⟩, rfl, hc4, hg4⟩
    have hmod := Int.emod_nonneg (x * 16777216 + y * 65536 + z * 256 + u) (by omega : m ≠ 0)
    have hmod' := Int.emod_lt_of_pos (x * 16777216 + y * 65536 + z * 256 + u) hm
    go_wp2
    go_ret
    exact ⟨_, ⟨hmod, hmod'⟩, rfl, hc4, grown_trans (grown_trans (grown_trans hg1 hg2) hg3) hg4⟩

/-- A draw that answers yes or no. -/
def DrawnB (t : TypeId) (k : IntKind) (g : Nat) (A : Option Addr) (n cap : Nat) (w : World) (e : Ending) (w' : World) : Prop :=
  ∃ b : Bool, e = .returned (.bool b) ∧ Cur w' t k g A n cap ∧ w.grownBy w' (some g)

theorem l1Once_any (g : Nat) (A : Option Addr) (n cap : Nat) (m : Int) (w : World) (hm : 0 < m) (hc : Cur w 90 .i64 g A n cap) :
    Calls Tryd.prog 51 #[.pointer (some ⟨g, 0, none⟩), .int .i64 m] w (DrawnB 90 .i64 g A n cap w) := by
  go_enter Tryd.func51, Tryd.ntmps51
  go_wp2_with fail
  refine (l1Below_any g A n cap m _ hm hc).mono ?_
  rintro e w1 ⟨r, _, rfl, hc1, hg1⟩
  go_wp2
  go_ret
  exact ⟨_, rfl, hc1, hg1⟩

theorem l1Min_any (a b : Int) (w : World) : Calls Tryd.prog 91 #[.int .i64 a, .int .i64 b] w fun e w' => e = .returned (.int .i64 (min a b)) ∧ w = w' := by
  by_cases h : a < b
  · have e : Hid (min a b = a) := by show min a b = a; omega
    go_enter Tryd.func91, Tryd.ntmps91
    go_wp2
    go_ret
    exact ⟨by rw [e.out]; rfl, rfl⟩
  · have e : Hid (min a b = b) := by show min a b = b; omega
    go_enter Tryd.func91, Tryd.ntmps91
    go_wp2
    go_ret
    exact ⟨by rw [e.out]; rfl, rfl⟩

set_option maxHeartbeats 400000 in
theorem l1Odd_any (g : Nat) (A : Option Addr) (n cap : Nat) (w : World) (hc : Cur w 90 .i64 g A n cap) :
    Calls Tryd.prog 90 #[.pointer (some ⟨g, 0, none⟩)] w (Drawn (fun _ => True) 90 .i64 g A n cap w) := by
  go_enter Tryd.func90, Tryd.ntmps90
  have B0 : Box _ w.heap.size 2 ((List.map (Value.int .i64) [-1, 0, 1, 2147483648, -2147483648, 1099511627776, 4611686018427387904, -4611686018427387904, 9223372036854775807, -9223372036854775808]).toArray) :=
    Box.new w 2 #[.int .i64 (-1), .int .i64 0, .int .i64 1, .int .i64 2147483648, .int .i64 (-2147483648), .int .i64 1099511627776, .int .i64 4611686018427387904, .int .i64 (-4611686018427387904), .int .i64 9223372036854775807, .int .i64 (-9223372036854775808)]
  have hg0 := grown_bel (bel_alloc w (.cells #[.int .i64 (-1), .int .i64 0, .int .i64 1, .int .i64 2147483648, .int .i64 (-2147483648), .int .i64 1099511627776, .int .i64 4611686018427387904, .int .i64 (-4611686018427387904), .int .i64 9223372036854775807, .int .i64 (-9223372036854775808)] 2)) (some g)
  have hc0 := hc.kept (grown_bel (bel_alloc w (.cells #[.int .i64 (-1), .int .i64 0, .int .i64 1, .int .i64 2147483648, .int .i64 (-2147483648), .int .i64 1099511627776, .int .i64 4611686018427387904, .int .i64 (-4611686018427387904), .int .i64 9223372036854775807, .int .i64 (-9223372036854775808)] 2)) none) (fun q hq => by cases hq)
  have hlt := hc.lt
  go_wp2_with fail
  generalize (w.alloc _ : World) = w0 at B0 hg0 hc0 ⊢
  refine (l1Below_any g A n cap 10 _ (by omega) hc0).mono ?_
  rintro e w1 ⟨r, ⟨hr0, hr1⟩, rfl, hc1, hg1⟩
  obtain ⟨j, rfl⟩ := Int.eq_ofNat_of_zero_le hr0
  have B1 := B0.kept hg1 (by intro e; injection e with e; omega)
  have hcell := B1.ints (i := j) (by simp; omega)
  generalize nth _ j = z at hcell
  clear B0 B1
  go_wp2
  go_ret
  exact ⟨z, trivial, rfl, hc1, grown_trans hg0 hg1⟩

set_option maxHeartbeats 400000 in
theorem l1Num_any (g : Nat) (A : Option Addr) (n cap : Nat) (m : Int) (w : World) (hm0 : 0 ≤ m) (hm1 : m ≤ 4000000000) (hc : Cur w 90 .i64 g A n cap) :
    Calls Tryd.prog 65 #[.pointer (some ⟨g, 0, none⟩), .int .i64 m] w (Drawn (fun _ => True) 90 .i64 g A n cap w) := by
  go_enter Tryd.func65, Tryd.ntmps65
  go_wp2_with fail
  refine (l1Once_any g A n cap 10 _ (by omega) hc).mono ?_
  rintro e w1 ⟨b, rfl, hc1, hg1⟩
  rcases b with _ | _
  · go_wp2_with fail
    refine (l1Once_any g A n cap 2 _ (by omega) hc1).mono ?_
    rintro e w2 ⟨b, rfl, hc2, hg2⟩
    have hg12 := grown_trans hg1 hg2
    clear hg1 hg2 hc1
    rcases b with _ | _
    · go_wp2_with fail
      refine (l1Below_any g A n cap (m + 1) _ (by omega) hc2).mono ?_
      rintro e w3 ⟨r, _, rfl, hc3, hg3⟩
      go_wp2
      go_ret
      exact ⟨_, trivial, rfl, hc3, grown_trans hg12 hg3⟩
    · go_wp2_with fail
      refine (l1Min_any m 4 _).mono ?_
      rintro e w' ⟨rfl, rfl⟩
      have hmin0 : 0 ≤ min m 4 := by omega
      have hmin1 : min m 4 ≤ 4 := by omega
      generalize min m 4 = q at hmin0 hmin1 ⊢
      go_wp2_with fail
      refine (l1Below_any g A n cap (q + 1) _ (by omega) hc2).mono ?_
      rintro e w3 ⟨r, _, rfl, hc3, hg3⟩
      go_wp2
      go_ret
      exact ⟨_, trivial, rfl, hc3, grown_trans hg12 hg3⟩
  · go_wp2_with fail
    refine (l1Odd_any g A n cap _ hc1).mono ?_
    rintro e w2 ⟨x, _, rfl, hc2, hg2⟩
    have hg12 := grown_trans hg1 hg2
    clear hg1 hg2 hc1
    have B0 : Box _ w2.heap.size 2 ((List.map (Value.int .i64) [-1, m, m + 1, x]).toArray) := Box.new w2 2 #[.int .i64 (-1), .int .i64 m, .int .i64 (m + 1), .int .i64 x]
    have hb0 := bel_alloc w2 (.cells #[.int .i64 (-1), .int .i64 m, .int .i64 (m + 1), .int .i64 x] 2)
    have hlt := hc2.lt
    go_wp2_with fail
    generalize (w2.alloc _ : World) = w0 at B0 hb0 ⊢
    have hc0 := hc2.kept (grown_bel hb0 none) (fun q hq => by cases hq)
    have hg0 := grown_trans hg12 (grown_bel hb0 (some g))
    refine (l1Below_any g A n cap 4 _ (by omega) hc0).mono ?_
    rintro e w3 ⟨r, ⟨hr0, hr1⟩, rfl, hc3, hg3⟩
    obtain ⟨j, rfl⟩ := Int.eq_ofNat_of_zero_le hr0
    have B1 := B0.kept hg3 (by intro e; injection e with e; omega)
    have hcell := B1.ints (i := j) (by simp; omega)
    generalize nth _ j = z at hcell
    clear B0 B1
    go_wp2
    go_ret
    exact ⟨z, trivial, rfl, hc3, grown_trans hg0 hg3⟩

/-- What makes a cursor leaves: a new one, over the same bytes. -/
def MadeCur (t : TypeId) (k : IntKind) (A : Option Addr) (n cap : Nat) (w : World) (e : Ending) (w' : World) : Prop :=
  ∃ g, w.heap.size ≤ g ∧ e = .returned (.pointer (some ⟨g, 0, none⟩)) ∧ Cur w' t k g A n cap ∧ Below w.heap.size w w'

set_option maxHeartbeats 400000 in
theorem l1New_any (A : Option Addr) (n cap : Nat) (w : World) (hn : n ≤ 4096) (hB : Bytes w w.heap.size A n) :
    Calls Tryd.prog 25 #[.slice A n cap] w (MadeCur 90 .i64 A n cap w) := by
  have HB := Lib.hid hB
  clear hB
  go_enter Tryd.func25, Tryd.ntmps25
  go_wp2_with fail
  go_loop [3, 4] (fun h i => ∃ (k : Nat) (x : Int), k ≤ n ∧ i = .int .i64 k ∧ h = .int .i64 x) (fun _ i => n - (intOf i).toNat)
  case atStart => exact ⟨0, _, Nat.zero_le _, rfl, rfl⟩
  case round =>
    obtain ⟨k, x, hk, rfl, rfl⟩ := hrel
    by_cases hlt : k < n
    · obtain ⟨b, o, hA, hbB, hcell⟩ := HB.out (by omega)
      subst hA
      obtain ⟨z, hz0, hz1, hz⟩ := hcell k hlt
      clear hcell
      go_wp2
      go_round
      case rel => exact ⟨k + 1, _, by omega, by go_num, rfl⟩
      case measure => simp [intOf]; omega
    · go_wp2
      go_ret
      exact ⟨_, Nat.le_refl _, rfl, ⟨hn, HB.out.below (bel_alloc _ _) (Nat.le_refl _), 0, x, by omega, by omega, Box.new _ _ _⟩, bel_alloc _ _⟩

end Go.Proofs.YtgjbebfcbpfngaaDoor
