/- Lists of seals, and notes, that are alike: what likeSeals and likeNote answer. -/
import Derived.Test.YthpccmckjmmicaaSpecStamp
import Derived.Test.YthpccmckjmmicaaBase
import Derived.Test.YthpccmckjmmicaaNoteShape
namespace Go.Proofs.Ythpccmckjmmicaa
open Go.RowKit

set_option maxHeartbeats 1000000 in
theorem like_is (A A' : Option Addr) (n cap cap' : Nat) (ps : List (Int × Int)) (w : World) (hm : n ≤ 1048576) (hr : Pairs w w.heap.size A n ps) (hr' : Pairs w w.heap.size A' n ps) :
    Calls Try.prog 47 #[.slice A n cap, .slice A' n cap'] w fun e w' => e = .returned (.bool true) ∧ Below w.heap.size w w' := by
  have HR := Lib.hid hr
  have HR' := Lib.hid hr'
  clear hr hr'
  go_enter Try.func47, Try.ntmps47
  go_wp2_with fail
  go_loopw [5] (fun i wr => ∃ k : Nat, k ≤ n ∧ i = .int .i64 k ∧ Below w.heap.size w wr) (fun i _ => n - (intOf i).toNat)
  case atStart => exact ⟨0, Nat.zero_le _, rfl, Below.refl _ _⟩
  case round =>
    obtain ⟨k, hk, rfl, hb⟩ := hrel
    by_cases hlt : k < n
    · obtain ⟨b, o, hA, hbB, hcell⟩ := HR.out.2 (by omega)
      obtain ⟨b', o', hA', hbB', hcell'⟩ := HR'.out.2 (by omega)
      subst hA hA'
      obtain ⟨g0, g1⟩ := hcell k hlt
      obtain ⟨h0, h1⟩ := hcell' k hlt
      have hz := hb.size
      have g0 := After.cell (w := wr) (a := ⟨b, o + k * 2, none⟩) (by simp; omega) ((hb.cell (p := ⟨b, o + k * 2, none⟩) hbB).trans g0)
      have g1 := After.cell (w := wr) (a := ⟨b, o + k * 2 + 1, none⟩) (by simp; omega) ((hb.cell (p := ⟨b, o + k * 2 + 1, none⟩) hbB).trans g1)
      have h0 := After.cell (w := wr) (a := ⟨b', o' + k * 2, none⟩) (by simp; omega) ((hb.cell (p := ⟨b', o' + k * 2, none⟩) hbB').trans h0)
      have h1 := After.cell (w := wr) (a := ⟨b', o' + k * 2 + 1, none⟩) (by simp; omega) ((hb.cell (p := ⟨b', o' + k * 2 + 1, none⟩) hbB').trans h1)
      generalize pth ps k = x at g0 g1 h0 h1
      obtain ⟨x, y⟩ := x
      have hlt' : (k : Int) < (n : Int) := by omega
      clear hcell hcell'
      go_wp2_with fail
      refine wp_region_after (by kernel_rfl) (by kernel_rfl) ?_
      repeat (first | go_big_quiet_step (fail) | quiet_step (fail))
      refine wpQuiet_nil ?_
      intro pw
      have E3 := bel_trans hb pw.bel
      go_wp2
      go_roundw
      case rel => exact ⟨k + 1, by omega, by go_num, E3⟩
      case measure => simp [intOf]; omega
    · go_wp2
      go_ret
      exact ⟨rfl, hb⟩

end Go.Proofs.Ythpccmckjmmicaa
