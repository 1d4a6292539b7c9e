/- The exact law of JoinSeals answers true, whatever it is given: its walk. -/
import Derived.Test.YtghdnokjgmmgiaaGreatJoin
import Derived.Test.YtghdnokjgmmgiaaGreatSpecStamp
import Derived.Test.YtghdnokjgmmgiaaGreatSpecCert
namespace Go.Proofs.YtghdnokjgmmgiaaGreat
open Go.RowKit

/-- The list that is answered: nil, or in a block of its own; D is what stands there now. -/
def Res (wr : World) (B : Nat) (u : Value) (J D : List (Int × Int)) : Prop :=
  (u = .slice none 0 0 ∧ J = [] ∧ D = []) ∨ ∃ g cap, B ≤ g ∧ u = .slice (some ⟨g, 0, none⟩) J.length cap ∧ D.length = J.length ∧ Held wr g D
/-- What the laws of lists keep: what came in, the model's list, the program's list. -/
structure Ex (W wr : World) (B q : Nat) (u : Value) (J D : List (Int × Int)) : Prop where
  bel : Below W.heap.size W wr
  wB : W.heap.size ≤ B
  sB : B ≤ wr.heap.size
  w0 : Pairs wr B (some ⟨q, 0, none⟩) J.length J
  res : Res wr B u J D
theorem Ex.later {W wr w' : World} {B q : Nat} {u : Value} {J D : List (Int × Int)} (h : Ex W wr B q u J D) (hb : Below wr.heap.size wr w') : Ex W w' B q u J D := by
  refine ⟨bel_trans h.bel hb, h.wB, Nat.le_trans h.sB hb.size, h.w0.below hb h.sB, ?_⟩
  rcases h.res with h | ⟨g, cap, h1, h2, h3, h4⟩
  · exact .inl h
  · exact .inr ⟨g, cap, h1, h2, h3, h4.later hb⟩
theorem Held.kept {w w' : World} {g : Nat} {d : List (Int × Int)} {r : Option Nat} (h : Held w g d) (hg : w.grownBy w' r) (hne : r ≠ some g) : Held w' g d :=
  ⟨Nat.lt_of_lt_of_le h.lt hg.size, fun o => (hg.frozen_far ⟨g, o, none⟩ h.lt (fun e => hne e.symm)).trans (h.fr o), fun i hi => (hg.cell_far ⟨g, i * 2, none⟩ h.lt (fun e => hne e.symm)).trans (h.at0 i hi), fun i hi => (hg.cell_far ⟨g, i * 2 + 1, none⟩ h.lt (fun e => hne e.symm)).trans (h.at1 i hi)⟩
/-- A block of another copy is written. -/
theorem Ex.other {W wr w' : World} {B q x : Nat} {u : Value} {J D : List (Int × Int)} (h : Ex W wr B q u J D) (hg : wr.grownBy w' (some x)) (hx : B ≤ x) (hu : ∀ g cap, u = .slice (some ⟨g, 0, none⟩) J.length cap → g ≠ x) : Ex W w' B q u J D := by
  refine ⟨bel_grown h.bel hg (Nat.le_trans h.wB hx), h.wB, Nat.le_trans h.sB hg.size, h.w0.keep (fun p hp => hg.cell_far p (Nat.lt_of_lt_of_le hp h.sB) (by intro e; injection e with e; omega)), ?_⟩
  rcases h.res with h | ⟨g, cap, h1, h2, h3, h4⟩
  · exact .inl h
  · exact .inr ⟨g, cap, h1, h2, h3, h4.kept hg (by intro e; injection e with e; exact hu g cap h2 e.symm)⟩
theorem Ex.of {W w3 w5 w6 : World} {q : Nat} {u : Value} {J : List (Int × Int)} (hb3 : Below W.heap.size W w3) (hp : Pairs w3 w3.heap.size (some ⟨q, 0, none⟩) J.length J) (hb5 : Below w3.heap.size w3 w5) (ho : Own w5 u J w6) : Ex W w6 w3.heap.size q u J J := by
  have hb6 := bel_trans hb5 ho.2
  refine ⟨bel_trans hb3 hb6, hb3.size, hb6.size, hp.below hb6 (Nat.le_refl _), ?_⟩
  rcases ho.1 with ⟨h1, h2⟩ | ⟨g, cap, h1, h2, _, _, h3⟩
  · exact .inl ⟨h1, h2, h2⟩
  · exact .inr ⟨g, cap, Nat.le_trans hb5.size h1, h2, rfl, h3⟩

theorem eqRes_is {W wr : World} {B q : Nat} {u : Value} {J : List (Int × Int)} (c : Nat) (h : Ex W wr B q u J J) (hn : J.length ≤ 1048576) :
    Calls Tryz.prog 22 #[u, .slice (some ⟨q, 0, none⟩) J.length c] wr fun e w' => e = .returned (.bool true) ∧ Below wr.heap.size wr w' := by
  rcases h.res with ⟨rfl, h2, _⟩ | ⟨g, cap, _, rfl, _, h4⟩
  · have hp := h.w0.more h.sB
    rw [h2] at hp ⊢
    exact eqSeals_same none (some ⟨q, 0, none⟩) 0 0 c [] wr (by omega) ⟨rfl, fun h => absurd h (by omega)⟩ hp
  · exact eqSeals_same _ _ J.length cap c J wr hn h4.pairs (h.w0.more h.sB)
theorem markRes_is {W wr : World} {B q : Nat} {u : Value} {J D : List (Int × Int)} (h : Ex W wr B q u J D) (hn : J.length ≤ 1048576) :
    Calls Tryz.prog 25 #[u, .int .i64 1] wr fun e w' => e = .returned (.int .i64 (1 + 2 * J.length)) ∧ ∃ D', Marked 1 D' ∧ Ex W w' B q u J D' := by
  rcases h.res with ⟨rfl, h2, h3⟩ | ⟨g, cap, h1, rfl, h3, h4⟩
  · refine (mark_nil 1 wr).mono ?_
    rintro e w' ⟨rfl, rfl⟩
    exact ⟨by rw [h2]; rfl, D, by rw [h3]; intro j hj; simp at hj, h⟩
  · refine (mark_is g J.length cap 1 D wr (by omega) (by omega) (by omega) h3 h4).mono ?_
    rintro e w' ⟨rfl, D', hd1, hd2, hd3, hg⟩
    refine ⟨rfl, D', hd2, bel_grown h.bel hg (Nat.le_trans h.wB h1), h.wB, Nat.le_trans h.sB hg.size, h.w0.keep (fun p hp => hg.cell_far p (Nat.lt_of_lt_of_le hp h.sB) (by intro e; injection e with e; omega)), .inr ⟨g, cap, h1, rfl, hd1, hd3⟩⟩
theorem heldRes_is {W wr : World} {B q : Nat} {u : Value} {J D : List (Int × Int)} (h : Ex W wr B q u J D) (hM : Marked 1 D) (hn : J.length ≤ 1048576) :
    Calls Tryz.prog 62 #[u, .int .i64 1] wr fun e w' => e = .returned (.int .i64 (1 + 2 * J.length)) ∧ wr = w' := by
  rcases h.res with ⟨rfl, h2, h3⟩ | ⟨g, cap, h1, rfl, h3, h4⟩
  · refine (held_nil 1 wr).mono ?_
    rintro e w' ⟨rfl, rfl⟩
    exact ⟨by rw [h2]; rfl, rfl⟩
  · exact held_is g J.length cap 1 D wr (by omega) (by omega) (by omega) h3 hM h4
theorem Held.slc {w : World} {g n cap : Nat} {ps : List (Int × Int)} (h : Held w g ps) (hl : ps.length = n) : Slc w (.slice (some ⟨g, 0, none⟩) n cap) ps := .inr ⟨g, 0, n, cap, rfl, hl ▸ h.pairs⟩
theorem Held.prs {w : World} {g n : Nat} {ps : List (Int × Int)} (h : Held w g ps) (hl : ps.length = n) : Pairs w w.heap.size (some ⟨g, 0, none⟩) n ps := hl ▸ h.pairs
theorem Ex.apart {W wr w : World} {B q x : Nat} {u : Value} {J D : List (Int × Int)} (ho : Own w u J wr) (_h : Ex W wr B q u J D) (hx : x < w.heap.size) : ∀ g cap, u = .slice (some ⟨g, 0, none⟩) J.length cap → g ≠ x := by
  intro g cap hu
  rcases ho.1 with ⟨h1, _⟩ | ⟨g', cap', h1, h2, _⟩
  · rw [h1] at hu; cases hu
  · rw [h2] at hu
    injection hu with e1 _ _
    injection e1 with e1
    injection e1 with e1 _ _
    omega

end Go.Proofs.YtghdnokjgmmgiaaGreat
