/- A list of seals that comes in is read as a list of pairs. -/
import Derived.Test.YthpccmckjmmicaaReadsStamp
namespace Go.Proofs.Ythpccmckjmmicaa
set_option maxRecDepth 100000
open Go.ChangeShapes Go.WideShapes Go.ChangeAt Go.RowKit Go.Deep

theorem seals_read {H : Type} {enc : TypeId × Value → H} {W : World} {r : Reach} {b0 : Nat} {v : Value} {d : DataW H} {p : List MemPlace} (hv : Value.okWide Try.prog W r b0 39 v) (h : DataW.Trod enc Try.prog W 0 (fun _ => true) true 39 v d p) :
    ∃ (A : Option Addr) (n cap : Nat) (ps : List (Int × Int)), v = .slice A n cap ∧ Pairs W W.heap.size A n ps ∧ n ≤ maxLen := by
  obtain ⟨a0, len0, cap0, rfl⟩ := okWide_slice Try.underlying39 hv
  obtain ⟨fuel, hf⟩ := h
  exact pairs_of Try.underlying39 Try.underlying80 (by kernel_rfl) rfl rfl (by kernel_rfl) (by kernel_rfl) Try.underlying2 Try.underlying2 hf

end Go.Proofs.Ythpccmckjmmicaa
