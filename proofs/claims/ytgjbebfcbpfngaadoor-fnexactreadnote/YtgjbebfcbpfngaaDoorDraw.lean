/- Words for the cursors of the laws' draws: bytes that can be read, a cursor over them, and what a draw leaves; no conditions. -/
import Derived.Test.YtgjbebfcbpfngaaDoorBase
import Derived.Laws.AppendOwn
import Derived.Laws.BitsAllLaws
import Derived.Laws.BitsLemmas
namespace Go.Proofs.YtgjbebfcbpfngaaDoor
open Go.RowKit

/-- The slice of n bytes at A can be read, in blocks below B. -/
def Bytes (w : World) (B : Nat) (A : Option Addr) (n : Nat) : Prop :=
  0 < n → ∃ b o, A = some ⟨b, o, none⟩ ∧ b < B ∧ ∀ i, i < n → ∃ z : Int, 0 ≤ z ∧ z ≤ 255 ∧ w.cell? ⟨b, o + i, none⟩ = some (.int .u8 z)

theorem Bytes.keep {w w' : World} {B : Nat} {A : Option Addr} {n : Nat} (h : Bytes w B A n) (hk : ∀ p : Addr, p.block < B → w'.cell? p = w.cell? p) : Bytes w' B A n := fun hn => by
  obtain ⟨b, o, hA, hb, hc⟩ := h hn
  refine ⟨b, o, hA, hb, fun i hi => ?_⟩
  obtain ⟨z, h0, h1, hz⟩ := hc i hi
  exact ⟨z, h0, h1, by rw [hk ⟨b, o + i, none⟩ hb]; exact hz⟩
theorem Bytes.more {w : World} {B C : Nat} {A : Option Addr} {n : Nat} (h : Bytes w B A n) (hBC : B ≤ C) : Bytes w C A n := fun hn => by
  obtain ⟨b, o, hA, hb, hc⟩ := h hn
  exact ⟨b, o, hA, by omega, hc⟩
theorem Bytes.below {w w' : World} {B C : Nat} {A : Option Addr} {n : Nat} (h : Bytes w B A n) (hb : Below C w w') (hBC : B ≤ C) : Bytes w' B A n := h.keep fun _ hp => hb.cell (Nat.lt_of_lt_of_le hp hBC)

/-- A cursor over the n bytes at A lies in block g: at most all of them have been taken. -/
def Cur (w : World) (t : TypeId) (k : IntKind) (g : Nat) (A : Option Addr) (n cap : Nat) : Prop :=
  n ≤ 4096 ∧ Bytes w g A n ∧ ∃ i h : Int, 0 ≤ i ∧ i ≤ n ∧ Box w g t #[.slice A n cap, .int .i64 i, .int k h]

theorem Cur.lt {w : World} {t : TypeId} {k : IntKind} {g : Nat} {A : Option Addr} {n cap : Nat} (h : Cur w t k g A n cap) : g < w.heap.size := by
  obtain ⟨_, _, _, _, _, _, hb⟩ := h
  exact hb.lt

theorem grown_refl (w : World) (r : Option Nat) : w.grownBy w r := ⟨rfl, rfl, rfl, Nat.le_refl _, fun _ _ _ => rfl⟩
theorem grown_trans {a b c : World} {r : Option Nat} (h : a.grownBy b r) (k : b.grownBy c r) : a.grownBy c r :=
  ⟨k.os.trans h.os, k.tape.trans h.tape, k.output.trans h.output, Nat.le_trans h.size k.size, fun i hi hne => (k.block i (Nat.lt_of_lt_of_le hi h.size) hne).trans (h.block i hi hne)⟩
theorem grown_drewN {a b : World} {r : Option Nat} (h : a.grownBy b r) (n : Nat) : a.grownBy (b.drewN n) r := ⟨h.os, h.tape, h.output, h.size, h.block⟩
theorem grown_drew {a b : World} {r : Option Nat} (h : a.grownBy b r) : a.grownBy b.drew r := ⟨h.os, h.tape, h.output, h.size, h.block⟩
theorem grown_set {a b : World} {g : Nat} (h : a.grownBy b (some g)) (i : Nat) (u : Value) : a.grownBy (b.setCell ⟨g, i, none⟩ u) (some g) :=
  ⟨h.os, h.tape, h.output, by rw [size_set]; exact h.size, fun k hk hne => (Below.heap_setCell b ⟨g, i, none⟩ u k (fun e => hne (by rw [e]))).trans (h.block k hk hne)⟩
theorem grown5 (w : World) (R : Nat) (v0 v1 v2 v3 v4 : Value) :
    w.grownBy (((((w.setCell ⟨R, 0, none⟩ v0).setCell ⟨R, 1, none⟩ v1).setCell ⟨R, 2, none⟩ v2).setCell ⟨R, 3, none⟩ v3).setCell ⟨R, 4, none⟩ v4) (some R) :=
  grown_set (grown_set (grown_set (grown_set (grown_set (grown_refl w (some R)) 0 v0) 1 v1) 2 v2) 3 v3) 4 v4
theorem grown_new {a b : World} {r : Option Nat} (h : a.grownBy b r) {p : Addr} (hp : a.heap.size ≤ p.block) (u : Value) : a.grownBy (b.setCell p u) r :=
  ⟨h.os, h.tape, h.output, by rw [size_set]; exact h.size, fun k hk hne => (Below.heap_setCell b p u k (fun e => by omega)).trans (h.block k hk hne)⟩
theorem grown_bel {a b : World} (h : Below a.heap.size a b) (r : Option Nat) : a.grownBy b r := ⟨h.os, h.tape, h.output, h.size, fun k hk _ => h.block k hk⟩
theorem grown_alloc {a b : World} {r : Option Nat} (h : a.grownBy b r) (o : Obj) : a.grownBy (b.alloc o) r := grown_trans h (grown_bel (bel_alloc b o) r)
theorem grown_far {a b c : World} {r r' : Option Nat} (h : a.grownBy b r) (k : b.grownBy c r') (hr : ∀ q, r' = some q → a.heap.size ≤ q) : a.grownBy c r :=
  ⟨k.os.trans h.os, k.tape.trans h.tape, k.output.trans h.output, Nat.le_trans h.size k.size, fun i hi hne => (k.block i (Nat.lt_of_lt_of_le hi h.size) (fun e => by have := hr _ e.symm; omega)).trans (h.block i hi hne)⟩
theorem bel_grown {a b c : World} {g : Nat} (h : Below a.heap.size a b) (k : b.grownBy c (some g)) (hg : a.heap.size ≤ g) : Below a.heap.size a c :=
  h.grown k h.size (fun r hr => by injection hr with hr; omega)

theorem Box.kept {w w' : World} {g : Nat} {t : TypeId} {cs : Array Value} {r : Option Nat} (h : Box w g t cs) (hg : w.grownBy w' r) (hne : r ≠ some g) : Box w' g t cs := (hg.block g h.lt (fun e => hne e.symm)).trans h
theorem Box.set {w : World} {g : Nat} {t : TypeId} {cs : Array Value} (h : Box w g t cs) (i : Nat) (u : Value) : Box (w.setCell ⟨g, i, none⟩ u) g t (cs.setIfInBounds i u) := by
  unfold Box at h ⊢
  simp [World.setCell, Array.getElem?_modify, h]
theorem Box.far {w : World} {g : Nat} {t : TypeId} {cs : Array Value} (h : Box w g t cs) {p : Addr} (hp : p.block ≠ g) (u : Value) : Box (w.setCell p u) g t cs := (Below.heap_setCell w p u g (fun e => hp e.symm)).trans h
theorem Box.three {w : World} {g : Nat} {t : TypeId} {v0 v1 v2 : Value} (h : Box w g t #[v0, v1, v2]) : w.cell? ⟨g, 0, none⟩ = some v0 ∧ w.cell? ⟨g, 1, none⟩ = some v1 ∧ w.cell? ⟨g, 2, none⟩ = some v2 := ⟨h.cell 0, h.cell 1, h.cell 2⟩

theorem Bytes.kept {w w' : World} {B : Nat} {A : Option Addr} {n : Nat} {r : Option Nat} (h : Bytes w B A n) (hg : w.grownBy w' r) (hB : B ≤ w.heap.size) (hr : ∀ k, r = some k → B ≤ k) : Bytes w' B A n :=
  h.keep fun p hp => World.cell?_of_block (hg.block p.block (by omega) (fun e => by have := hr _ e.symm; omega))
theorem Bytes.set {w : World} {g : Nat} {A : Option Addr} {n : Nat} (h : Bytes w g A n) (i : Nat) (u : Value) : Bytes (w.setCell ⟨g, i, none⟩ u) g A n :=
  h.keep fun p hp => World.cell?_setCell_other _ _ _ _ (fun e => by rw [← e] at hp; exact absurd hp (Nat.lt_irrefl _))
theorem Bytes.drewN {w : World} {B : Nat} {A : Option Addr} {n : Nat} (h : Bytes w B A n) (k : Nat) : Bytes (w.drewN k) B A n := h
theorem Box.drewN {w : World} {g : Nat} {t : TypeId} {cs : Array Value} (h : Box w g t cs) (k : Nat) : Box (w.drewN k) g t cs := h
/-- A cursor is as it was where other blocks, behind it, were written. -/
theorem Cur.kept {w w' : World} {t : TypeId} {k : IntKind} {g : Nat} {A : Option Addr} {n cap : Nat} {r : Option Nat} (h : Cur w t k g A n cap) (hg : w.grownBy w' r) (hr : ∀ q, r = some q → g < q) : Cur w' t k g A n cap := by
  have hl := h.lt
  obtain ⟨hn, hB, i, x, h0, h1, hb⟩ := h
  exact ⟨hn, hB.kept hg (by omega) (fun q hq => by have := hr q hq; omega), i, x, h0, h1, hb.kept hg (fun e => by have := hr g e; omega)⟩

/-- What a draw leaves: a number, the cursor further on, and nothing else that was there turned. -/
def Drawn (p : Int → Prop) (t : TypeId) (k : IntKind) (g : Nat) (A : Option Addr) (n cap : Nat) (w : World) (e : Ending) (w' : World) : Prop :=
  ∃ r : Int, p r ∧ e = .returned (.int .i64 r) ∧ Cur w' t k g A n cap ∧ w.grownBy w' (some g)

theorem Box.ints {w : World} {g : Nat} {t : TypeId} {zs : List Int} (h : Box w g t (zs.map (Value.int .i64)).toArray) {i : Nat} (hi : i < zs.length) : w.cell? ⟨g, i, none⟩ = some (.int .i64 (nth zs i)) := by
  rw [h.cell i, nth_lt hi]
  simp [hi]

/-- The low byte of whatever number. -/
theorem and_255 (a : Int) : 0 ≤ bits .and .i64 a 255 ∧ bits .and .i64 a 255 ≤ 255 := by
  have hx : (BitVec.ofInt 64 a &&& BitVec.ofInt 64 255).toNat ≤ 255 := by
    rw [BitVec.toNat_and]
    exact Nat.and_le_right
  have e : bits .and .i64 a 255 = IntKind.i64.wrap ((BitVec.ofInt 64 a &&& BitVec.ofInt 64 255).toNat : Int) := rfl
  rw [e, IntKind.wrap_i64]
  omega

end Go.Proofs.YtgjbebfcbpfngaaDoor
