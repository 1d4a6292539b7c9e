/- One walk serves a region that draws its order, where its operations read old memory only and its calls answer plain values and make memory of their own; no conditions. -/
import Derived.Deep.QuietTactic
import Derived.BigQuiet
import Derived.Test.YtgjbebfcbpfngaaDoorBase
namespace Go.Proofs.YtgjbebfcbpfngaaDoor
open Go.RowKit

/-- A world that has come after w: old memory is as it was. -/
structure After (w : World) where
  x : World
  bel : Below w.heap.size w x
instance afterSome (w : World) : Nonempty (After w) := ⟨⟨w, Below.refl _ _⟩⟩

theorem wp_region_after {P : Program} {id : Nat} {Q : Exit → Act → World → Prop} {a : Act} {w : World} {l : List Oper} (hm : P.follows .mixedOrders = true) (hB : Region.lexB .any l.toArray = true)
    (h : wpQuiet P l.toArray (fun w' => ∃ p : After w, w' = p.x) (fun a' => ∀ p : After w, Q .normal a' p.x) l a) : (Code.region id l.toArray true).wp P Q a w :=
  wp_region_quiet (C := fun w' => ∃ p : After w, w' = p.x) hm hB ⟨⟨w.drew, (Below.refl _ _).drew⟩, rfl⟩ (by
    have e : (fun a' => ∀ p : After w, Q .normal a' p.x) = (fun a' => ∀ w', (∃ p : After w, w' = p.x) → Q .normal a' w') := by
      funext a'
      exact propext ⟨fun h w' ⟨p, hp⟩ => hp ▸ h p, fun h p => h _ ⟨p, rfl⟩⟩
    rw [e] at h
    simpa using h)

theorem After.cell {w : World} {a : Addr} {v : Value} (hb : a.block < w.heap.size) (h : w.cell? a = some v) : ∀ p : After w, p.x.cell? a = some v := fun p => by
  rw [p.bel.cell (hb)]; exact h

/-- A callee that makes memory of its own, met in such a world. -/
theorem after_of {P : Program} {f : FuncId} {args : Array Value} {w : World} {p : After w} {v : Value}
    (h : Calls P f args p.x fun e w' => e = .returned v ∧ Below p.x.heap.size p.x w') : Calls P f args p.x fun e w'' => e = .returned v ∧ ∃ q : After w, w'' = q.x :=
  h.mono fun _ w' ⟨he, hb⟩ => ⟨he, ⟨w', p.bel.trans (hb.mono p.bel.size)⟩, rfl⟩
theorem after_same {P : Program} {f : FuncId} {args : Array Value} {w : World} {p : After w} {v : Value}
    (h : Calls P f args p.x fun e w' => e = .returned v ∧ p.x = w') : Calls P f args p.x fun e w'' => e = .returned v ∧ ∃ q : After w, w'' = q.x :=
  h.mono fun _ _ ⟨he, hb⟩ => ⟨he, p, hb.symm⟩

theorem fiveAfter {w : World} {g : Nat} {t : TypeId} {v0 v1 v2 v3 v4 : Value} (h : Box w g t #[v0, v1, v2, v3, v4]) :
    (∀ p : After w, p.x.cell? ⟨g, 0, none⟩ = some v0) ∧ (∀ p : After w, p.x.cell? ⟨g, 1, none⟩ = some v1) ∧ (∀ p : After w, p.x.cell? ⟨g, 2, none⟩ = some v2) ∧ (∀ p : After w, p.x.cell? ⟨g, 3, none⟩ = some v3) ∧ (∀ p : After w, p.x.cell? ⟨g, 4, none⟩ = some v4) :=
  ⟨After.cell h.lt (h.cell 0), After.cell h.lt (h.cell 1), After.cell h.lt (h.cell 2), After.cell h.lt (h.cell 3), After.cell h.lt (h.cell 4)⟩
theorem rowAfter {w : World} {A : Option Addr} {n : Nat} {zs : List Int} (h : Row w w.heap.size A n zs) (p : After w) : Row p.x p.x.heap.size A n zs := (h.below p.bel (Nat.le_refl _)).more p.bel.size


end Go.Proofs.YtgjbebfcbpfngaaDoor
