/- Bytes that come in can be read; no conditions. -/
import Derived.Test.YtjdepjpjjgkmbaaGreatRows
import Derived.Test.YtjdepjpjjgkmbaaGreatBase
import Derived.WalkKit
import Derived.ProofKit
import Derived.OpenShut
import Derived.ShutString
import Derived.ChangeOld
import Derived.Below
import Derived.Carry
import Derived.Laws.Rows
namespace Go.Proofs.YtjdepjpjjgkmbaaGreat
set_option maxRecDepth 100000
open Go.ChangeShapes Go.WideShapes Go.ChangeAt Go.RowKit
set_option linter.unusedVariables false

/-- What the reading of bytes that came in tells. -/
theorem bytes_read {H : Type} {enc : TypeId × Value → H} {W : World} {r : Reach} {b0 : Nat} {v : Value} {d : DataW H} {p : List MemPlace} (hv : Value.okWide Tryz.prog W r b0 22 v) (h : DataW.Trod enc Tryz.prog W 0 (fun _ => true) true 22 v d p) :
    ∃ (A : Option Addr) (n cap : Nat), v = .slice A n cap ∧ Bytes W W.heap.size A n ∧ n ≤ maxLen := by
  obtain ⟨a0, len0, cap0, rfl⟩ := okWide_slice Tryz.underlying22 hv
  obtain ⟨fuel, hf⟩ := h
  rcases open_ints Tryz.underlying22 Tryz.underlying5 (by kernel_rfl) hf with ⟨e4, _⟩ | ⟨a, len, cap, zs, e4, _, hl, hm, hz, _, hcell, hwz⟩
  · simp [Value.cells] at e4
    obtain ⟨rfl, rfl, rfl⟩ := e4
    exact ⟨none, 0, 0, rfl, fun h => absurd h (by omega), by unfold maxLen; omega⟩
  · simp [Value.cells] at e4
    obtain ⟨rfl, rfl, rfl⟩ := e4
    have hzc : zs.length = cap0 := by simpa using hz
    refine ⟨_, _, _, rfl, fun hn => ?_, by omega⟩
    obtain ⟨b, o, spot⟩ := a
    have hc0 := hcell 0 (by omega)
    have hs : spot = none := by simpa [Addr.add] using World.cell?_spot hc0
    subst hs
    refine ⟨b, o, rfl, ?_, fun i hi => ?_⟩
    · have := block_lt_of_cell hc0
      simpa [Addr.add] using this
    · have hci := hcell i (by omega)
      have ea : (⟨b, o, none⟩ : Addr).add i = ⟨b, o + i, none⟩ := by
        unfold Addr.add
        split
        · simp_all
        · rfl
      rw [ea] at hci
      have hin : zs.getD i 0 ∈ zs := by
        rw [show zs.getD i 0 = zs[i]'(by omega) by simp [show i < zs.length by omega]]
        exact List.getElem_mem _
      have hb := bounds_u8 (hwz _ hin)
      exact ⟨_, hb.1, by have := hb.2; omega, hci⟩

theorem ownB : ownKnob Tryz.prog.godebug = none := by kernel_rfl
theorem laidOutBytes : laidOutB Tryz.prog = true := by kernel_rfl

end Go.Proofs.YtjdepjpjjgkmbaaGreat
