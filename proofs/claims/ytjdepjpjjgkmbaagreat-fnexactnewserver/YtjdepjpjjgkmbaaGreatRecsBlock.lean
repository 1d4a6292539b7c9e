/- A list of records in memory: read through blocks of F alone; no conditions. -/
import Derived.Test.YtjdepjpjjgkmbaaGreatRecKind
namespace Go.Proofs.YtjdepjpjjgkmbaaGreat
open Go Go.RowKit

/-- The record d, with the list u, stands at this place. -/
def RecAt (w : World) (b o : Nat) (d : RecD) (u : Value) : Prop :=
  w.cell? ⟨b, o, none⟩ = some (.int .i64 d.r1) ∧ w.cell? ⟨b, o + 1, none⟩ = some (.int .i64 d.r2) ∧ w.cell? ⟨b, o + 2, none⟩ = some (.int .i64 d.r3) ∧ w.cell? ⟨b, o + 3, none⟩ = some (.int .i64 d.r4) ∧ w.cell? ⟨b, o + 4, none⟩ = some (.int .i64 d.r5) ∧ w.cell? ⟨b, o + 5, none⟩ = some (.int .i64 d.r6) ∧ w.cell? ⟨b, o + 6, none⟩ = some (.int .i64 d.r7) ∧ w.cell? ⟨b, o + 7, none⟩ = some u ∧ w.cell? ⟨b, o + 8, none⟩ = some (.int .i64 d.r8)
theorem RecAt.turn {w w' : World} {b o : Nat} {d : RecD} {u : Value} {T : Nat → Prop} (h : RecAt w b o d u) (hb : b < w.heap.size) (ht : Turns T w w') (hT : ¬ T b) : RecAt w' b o d u := by
  have F : ∀ k, w'.cell? ⟨b, k, none⟩ = w.cell? ⟨b, k, none⟩ := fun k => ht.cell hb hT k
  unfold RecAt
  simp only [F]
  exact h
def RecsF (ds : List RecD) (w : World) (F : Nat → Prop) (A : Option Addr) (n : Nat) : Prop :=
  ds.length = n ∧ (0 < n → ∃ b o, A = some ⟨b, o, none⟩ ∧ F b ∧ b < w.heap.size ∧ ∀ i (h : i < ds.length), ∃ L m mc, RecAt w b (o + i * 9) ds[i] (.slice L m mc) ∧ m ≤ maxLen ∧ PairsF w F L m (ds[i]).ps)
theorem RecsF.turn {T : Nat → Prop} {w w' : World} {F : Nat → Prop} {A : Option Addr} {n : Nat} {ds : List RecD} (h : RecsF ds w F A n) (ht : Turns T w w') (hd : ∀ b, F b → ¬ T b) : RecsF ds w' F A n := by
  refine ⟨h.1, fun hn => ?_⟩
  obtain ⟨b, o, hA, hF, hb, hc⟩ := h.2 hn
  refine ⟨b, o, hA, hF, Nat.lt_of_lt_of_le hb ht.size, fun i hi => ?_⟩
  obtain ⟨L, m, mc, h1, h2, h3⟩ := hc i hi
  exact ⟨L, m, mc, h1.turn hb ht (hd b hF), h2, h3.turn ht hd⟩
theorem RecsF.later {w w' : World} {F : Nat → Prop} {A : Option Addr} {n : Nat} {ds : List RecD} (h : RecsF ds w F A n) (hb : Below w.heap.size w w') : RecsF ds w' F A n := h.turn (T := fun _ => False) (Turns.of_below hb) (fun _ _ h => h)
theorem RecsF.sub {w : World} {F F' : Nat → Prop} {A : Option Addr} {n : Nat} {ds : List RecD} (h : RecsF ds w F A n) (hs : ∀ b, F b → F' b) : RecsF ds w F' A n := by
  refine ⟨h.1, fun hn => ?_⟩
  obtain ⟨b, o, hA, hF, hb, hc⟩ := h.2 hn
  refine ⟨b, o, hA, hs b hF, hb, fun i hi => ?_⟩
  obtain ⟨L, m, mc, h1, h2, h3⟩ := hc i hi
  exact ⟨L, m, mc, h1, h2, h3.1, fun hn b o e => hs b (h3.2 hn b o e)⟩
/-- A value reads as a list of records. -/
def AtCS (ds : List RecD) (w : World) (F : Nat → Prop) (v : Value) : Prop := ∃ A n cap, v = .slice A n cap ∧ n ≤ maxLen ∧ RecsF ds w F A n
theorem keepsCS (ds : List RecD) : Keeps (AtCS ds) := ⟨fun ⟨A, n, c, e, h1, h2⟩ ht hd => ⟨A, n, c, e, h1, h2.turn ht hd⟩, fun ⟨A, n, c, e, h1, h2⟩ hs => ⟨A, n, c, e, h1, h2.sub hs⟩⟩
end Go.Proofs.YtjdepjpjjgkmbaaGreat
