/- What the laws' own dice leave: a number below a bound, a cursor that is right, and a right group; conditions: the cursor is a right one. -/
import Derived.Test.YtcejiellbefojaaDrawAny
import Derived.RegionTactic
import Derived.BigRegion
namespace Go.Proofs.Ytcejiellbefojaa
open Go.RowKit

/-- What a draw out of the code alone leaves. -/
def MadeAny (w : World) (e : Ending) (w' : World) : Prop :=
  ∃ (s l c sh : Int) (q o m cap' : Nat) (zs : List Int), w.heap.size ≤ q ∧ e = .returned (.agg #[.int .i64 s, .int .i64 l, .int .i64 c, .int .i64 sh, .slice (some ⟨q, o, none⟩) m cap']) ∧
    Row w' w'.heap.size (some ⟨q, o, none⟩) m zs ∧ m ≤ 100 ∧ Below w.heap.size w w'

theorem and_low (a : Int) : 0 ≤ bits .and .u64 a 16777215 ∧ bits .and .u64 a 16777215 ≤ 16777215 := by
  have hx : (BitVec.ofInt 64 a &&& BitVec.ofInt 64 16777215).toNat ≤ 16777215 := by
    rw [BitVec.toNat_and]
    exact Nat.and_le_right
  have e : bits .and .u64 a 16777215 = IntKind.u64.wrap ((BitVec.ofInt 64 a &&& BitVec.ofInt 64 16777215).toNat : Int) := rfl
  rw [e, IntKind.wrap_u64]
  omega

set_option maxHeartbeats 1000000 in
theorem below_any (g : Nat) (A : Option Addr) (n cap : Nat) (m : Int) (w : World) (hm : 0 < m) (hc : Cur w 60 .u64 g A n cap) :
    Calls Try.prog 11 #[.pointer (some ⟨g, 0, none⟩), .int .i64 m] w (Drawn (fun r => 0 ≤ r ∧ r < m) 60 .u64 g A n cap w) := by
  obtain ⟨hn, hB, i, h, hi0, hi1, hbox⟩ := hc
  obtain ⟨c0, c1, c2⟩ := hbox.three
  have f1 := hbox.frozen 1
  have f2 := hbox.frozen 2
  go_enter Try.func11, Try.ntmps11
  go_wp2_with fail
  have hb1 := hbox.set 2 (.int .u64 (IntKind.u64.wrap (IntKind.u64.wrap (h * 6364136223846793005) + 1442695040888963407)))
  have hg1 := grown_set (grown_refl w (some g)) 2 (.int .u64 (IntKind.u64.wrap (IntKind.u64.wrap (h * 6364136223846793005) + 1442695040888963407)))
  generalize IntKind.u64.wrap (IntKind.u64.wrap (h * 6364136223846793005) + 1442695040888963407) = h1 at hb1 hg1 ⊢
  generalize IntKind.u64.wrap (h * 6364136223846793005) = h0
  have hB1 := hB.kept hg1 (Nat.le_of_lt hbox.lt) (fun k hk => by injection hk with hk; omega)
  generalize w.setCell ⟨g, 2, none⟩ (.int .u64 h1) = w1 at hb1 hg1 hB1 ⊢
  have hb1 : Box w1 g 60 #[.slice A n cap, .int .i64 i, .int .u64 h1] := hb1
  have hx := and_low (h1 / 8589934592)
  generalize bits .and .u64 (h1 / 8589934592) 16777215 = x at hx ⊢
  generalize h1 / 8589934592 = h2
  obtain ⟨hx0, hx1⟩ := hx
  rw [show wrap64 x = x by unfold wrap64; omega]
  clear c0 c1 c2 f1 f2 hbox hB
  obtain ⟨c0, c1, c2⟩ := hb1.three
  have f1 := hb1.frozen 1
  have HB := Lib.hid hB1
  by_cases hlt : i < n
  · obtain ⟨b, o, rfl, hbg, hcell⟩ := hB1 (by omega)
    obtain ⟨j, rfl⟩ := Int.eq_ofNat_of_zero_le hi0
    obtain ⟨z, hz0, hz1, hz⟩ := hcell j (by omega)
    have hmod := Int.emod_nonneg (x + z) (by omega : m ≠ 0)
    have hmod' := Int.emod_lt_of_pos (x + z) hm
    clear hcell hB1
    go_quiet (fail)
    go_wp2_with fail
    go_quiet (fail)
    go_wp2
    go_ret
    exact ⟨_, ⟨hmod, hmod'⟩, rfl, ⟨hn, Bytes.set HB.out _ _, (j : Int) + 1, h1, by omega, by omega, Box.set hb1 1 _⟩, grown_set (grown_drewN hg1 _) _ _⟩
  · have hd : decide (i < (n : Int)) = false := by simpa using hlt
    have hmod := Int.emod_nonneg x (by omega : m ≠ 0)
    have hmod' := Int.emod_lt_of_pos x hm
    clear hB1
    go_quiet (fail)
    go_wp2
    go_ret
    exact ⟨_, ⟨hmod, hmod'⟩, rfl, ⟨hn, HB.out, i, h1, hi0, hi1, hb1⟩, grown_drewN hg1 _⟩

set_option maxHeartbeats 1000000 in
theorem roll_any (A : Option Addr) (n cap : Nat) (sd : Int) (w : World) (hn : n ≤ 4096) (hB : Bytes w w.heap.size A n) :
    Calls Try.prog 9 #[.slice A n cap, .int .u64 sd] w (MadeCur 60 .u64 A n cap w) := by
  have HB := Lib.hid hB
  clear hB
  go_enter Try.func9, Try.ntmps9
  go_wp2_with fail
  have B0 := Box.new w 60 #[.slice A n cap, .int .i64 0, .int .u64 (IntKind.u64.wrap (IntKind.u64.wrap (sd * 7919) + n))]
  generalize IntKind.u64.wrap (IntKind.u64.wrap (sd * 7919) + n) = h0 at B0 ⊢
  generalize IntKind.u64.wrap (sd * 7919) = h1
  go_loopw [6] (fun i wr => ∃ (k : Nat) (h : Int), k ≤ n ∧ i = .int .i64 k ∧ Box wr w.heap.size 60 #[.slice A n cap, .int .i64 0, .int .u64 h] ∧ Below w.heap.size w wr) (fun i _ => n - (intOf i).toNat)
  case atStart => exact ⟨0, h0, Nat.zero_le _, rfl, B0, bel_alloc _ _⟩
  case round =>
    obtain ⟨k, h, hk, rfl, hbox, hb⟩ := hrel
    clear B0
    by_cases hlt : k < n
    · obtain ⟨b, o, hA, hbB, hcell⟩ := HB.out (by omega)
      subst hA
      obtain ⟨z, hz0, hz1, hz⟩ := hcell k hlt
      have hz' := (hb.cell (p := ⟨b, o + k, none⟩) hbB).trans hz
      have hlt' : (k : Int) < (n : Int) := by omega
      obtain ⟨c0, c1, c2⟩ := hbox.three
      have f2 := hbox.frozen 2
      clear hcell hz c0 c1
      go_wp2_with fail
      go_region
      go_wp2
      go_roundw
      case rel => exact ⟨k + 1, _, by omega, by go_num, Box.set hbox 2 _, (hb.setCell (p := ⟨w.heap.size, 2, none⟩) (Nat.le_refl _) _).drew⟩
      case measure => simp [intOf]; omega
    · go_wp2
      go_ret
      exact ⟨_, Nat.le_refl _, rfl, ⟨hn, HB.out.below hb (Nat.le_refl _), 0, h, by omega, by omega, hbox⟩, hb⟩

end Go.Proofs.Ytcejiellbefojaa
