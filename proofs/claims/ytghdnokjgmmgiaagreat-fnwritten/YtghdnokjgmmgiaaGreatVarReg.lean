/- A variable that holds a shelf, with its lists in blocks of their own, all within a stretch of blocks: what keeps it, its marks, two of them compared. -/
import Derived.Test.YtghdnokjgmmgiaaGreatMarkReg
namespace Go.Proofs.YtghdnokjgmmgiaaGreat
open Go.RowKit

/-- The variable at g holds a shelf with lists ps and os; it and they lie in blocks from lo up to hi. -/
structure Var (wr : World) (lo hi g : Nat) (A : Option Addr) (n c : Nat) (A' : Option Addr) (n' c' : Nat) (rt rq rv : Int) (ps : List (Int × Int)) (os : List Opn) : Prop where
  box : Box wr g 32 #[.int .i64 rt, .int .i64 rq, .int .i64 rv, .slice A n c, .slice A' n' c']
  g0 : lo ≤ g
  g1 : g < hi
  hw : hi ≤ wr.heap.size
  lists : ∃ l B h, lo ≤ l ∧ l ≤ B ∧ B ≤ h ∧ h ≤ hi ∧ (g < l ∨ h ≤ g) ∧ ResP wr l B (.slice A n c) ps ∧ ResQ wr B h (.slice A' n' c') os
theorem Var.later {wr w' : World} {lo hi g : Nat} {A : Option Addr} {n c : Nat} {A' : Option Addr} {n' c' : Nat} {rt rq rv : Int} {ps : List (Int × Int)} {os : List Opn} (h : Var wr lo hi g A n c A' n' c' rt rq rv ps os) (hb : Below wr.heap.size wr w') : Var w' lo hi g A n c A' n' c' rt rq rv ps os := by
  obtain ⟨l, B, hh, h1, h2, h3, h4, h5, h6, h7⟩ := h.lists
  exact ⟨h.box.later hb h.box.lt, h.g0, h.g1, Nat.le_trans h.hw hb.size, l, B, hh, h1, h2, h3, h4, h5, h6.later hb, h7.later hb⟩
theorem Var.band {wr w' : World} {lo hi a b g : Nat} {A : Option Addr} {n c : Nat} {A' : Option Addr} {n' c' : Nat} {rt rq rv : Int} {ps : List (Int × Int)} {os : List Opn} (h : Var wr lo hi g A n c A' n' c' rt rq rv ps os) (hb : Band a b wr w') (hd : hi ≤ a ∨ b ≤ lo) : Var w' lo hi g A n c A' n' c' rt rq rv ps os := by
  obtain ⟨l, B, hh, h1, h2, h3, h4, h5, h6, h7⟩ := h.lists
  have := h.g0
  have := h.g1
  exact ⟨h.box.band hb (by omega), h.g0, h.g1, Nat.le_trans h.hw hb.size, l, B, hh, h1, h2, h3, h4, h5, h6.band hb (by omega), h7.band hb (by omega)⟩
theorem Var.pairs {wr : World} {lo hi g : Nat} {A : Option Addr} {n c : Nat} {A' : Option Addr} {n' c' : Nat} {rt rq rv : Int} {ps : List (Int × Int)} {os : List Opn} (h : Var wr lo hi g A n c A' n' c' rt rq rv ps os) : ps.length = n ∧ Pairs wr wr.heap.size A n ps ∧ os.length = n' ∧ Quads wr wr.heap.size A' n' os ∧ n ≤ c ∧ c ≤ maxLen ∧ n' ≤ c' ∧ c' ≤ maxLen ∧ Slc wr (.slice A n c) ps ∧ SlcQ wr (.slice A' n' c') os := by
  obtain ⟨l, B, hh, h1, h2, h3, h4, h5, h6, h7⟩ := h.lists
  obtain ⟨A1, c1, e1, ha, hb, hc, hd⟩ := h6.form
  obtain ⟨A2, c2, e2, ha2, hb2, hc2, hd2⟩ := h7.resO.form
  injection e1 with e1 e1' e1''
  injection e2 with e2 e2' e2''
  subst e1 e1' e1'' e2 e2' e2''
  exact ⟨rfl, hc, rfl, hc2, ha, hb, ha2, hb2, hd, hd2⟩

/-- A shelf that was answered is laid into a new variable. -/
theorem var_new {w0 W w4 : World} {B : Nat} {A : Option Addr} {n c : Nat} {A' : Option Addr} {n' c' : Nat} {rt rq rv : Int} {ps : List (Int × Int)} {os : List Opn} (h0 : w0.heap.size ≤ W.heap.size) (hB : W.heap.size ≤ B) (hB' : B ≤ w4.heap.size) (hR : ResP w4 W.heap.size B (.slice A n c) ps) (hV : ResO w4 B (.slice A' n' c') os) :
    Var (w4.alloc (.cells #[.int .i64 rt, .int .i64 rq, .int .i64 rv, .slice A n c, .slice A' n' c'] 32)) w0.heap.size (w4.alloc (.cells #[.int .i64 rt, .int .i64 rq, .int .i64 rv, .slice A n c, .slice A' n' c'] 32)).heap.size w4.heap.size A n c A' n' c' rt rq rv ps os := by
  have hb := bel_alloc w4 (.cells #[.int .i64 rt, .int .i64 rq, .int .i64 rv, .slice A n c, .slice A' n' c'] 32)
  exact ⟨Box.new w4 _ _, by omega, by simp, Nat.le_refl _, W.heap.size, B, w4.heap.size, h0, hB, hB', by simp, .inr (Nat.le_refl _), hR.later hb, hV.resQ.later hb⟩
theorem ResQ.far {w : World} {lo hi : Nat} {u : Value} {D : List Opn} (h : ResQ w lo hi u D) {b : Nat} (hb : b < lo) (o : Nat) (x : Value) : ResQ (w.setCell ⟨b, o, none⟩ x) lo hi u D := by
  rcases h with h | ⟨g, cap, h1, h2, h3, h4, h5, h6⟩
  · exact .inl h
  · exact .inr ⟨g, cap, h1, h2, h3, h4, h5, h6.far (by omega) o x⟩
theorem var_put {w0 W w4 : World} {B g : Nat} {z0 z1 z2 z3 z4 : Value} {A : Option Addr} {n c : Nat} {A' : Option Addr} {n' c' : Nat} {rt rq rv : Int} {ps : List (Int × Int)} {os : List Opn} (X : Box w4 g 32 #[z0, z1, z2, z3, z4]) (hg : w0.heap.size ≤ g) (hgW : g < W.heap.size) (hB : W.heap.size ≤ B) (hB' : B ≤ w4.heap.size) (hR : ResP w4 W.heap.size B (.slice A n c) ps) (hV : ResO w4 B (.slice A' n' c') os) :
    Var (((((w4.setCell ⟨g, 0, none⟩ (.int .i64 rt)).setCell ⟨g, 1, none⟩ (.int .i64 rq)).setCell ⟨g, 2, none⟩ (.int .i64 rv)).setCell ⟨g, 3, none⟩ (.slice A n c)).setCell ⟨g, 4, none⟩ (.slice A' n' c')) w0.heap.size (((((w4.setCell ⟨g, 0, none⟩ (.int .i64 rt)).setCell ⟨g, 1, none⟩ (.int .i64 rq)).setCell ⟨g, 2, none⟩ (.int .i64 rv)).setCell ⟨g, 3, none⟩ (.slice A n c)).setCell ⟨g, 4, none⟩ (.slice A' n' c')).heap.size g A n c A' n' c' rt rq rv ps os := by
  have hs : (((((w4.setCell ⟨g, 0, none⟩ (.int .i64 rt)).setCell ⟨g, 1, none⟩ (.int .i64 rq)).setCell ⟨g, 2, none⟩ (.int .i64 rv)).setCell ⟨g, 3, none⟩ (.slice A n c)).setCell ⟨g, 4, none⟩ (.slice A' n' c')).heap.size = w4.heap.size := by simp only [size_set]
  refine ⟨X.put5 _ _ _ _ _, hg, by rw [hs]; exact X.lt, Nat.le_refl _, W.heap.size, B, w4.heap.size, by omega, hB, hB', by rw [hs]; exact Nat.le_refl _, .inl hgW, hR.far5 hgW _ _ _ _ _, ?_⟩
  exact ((((hV.resQ.far (by omega) 0 _).far (by omega) 1 _).far (by omega) 2 _).far (by omega) 3 _).far (by omega) 4 _

theorem eqVar_is {wr : World} {lo hi g : Nat} {A : Option Addr} {n c : Nat} {A' : Option Addr} {n' c' : Nat} {rt rq rv : Int} {ps : List (Int × Int)} {os : List Opn} {lo2 hi2 g2 : Nat} {A2 : Option Addr} {n2 c2 : Nat} {A2' : Option Addr} {n2' c2' : Nat} (h : Var wr lo hi g A n c A' n' c' rt rq rv ps os) (h2 : Var wr lo2 hi2 g2 A2 n2 c2 A2' n2' c2' rt rq rv ps os) (hp : ps.length ≤ 1048576) (hq : os.length ≤ 1048577) :
    Calls Tryz.prog 20 #[.agg #[.int .i64 rt, .int .i64 rq, .int .i64 rv, .slice A n c, .slice A' n' c'], .agg #[.int .i64 rt, .int .i64 rq, .int .i64 rv, .slice A2 n2 c2, .slice A2' n2' c2']] wr fun e w' => e = .returned (.bool true) ∧ Below wr.heap.size wr w' := by
  obtain ⟨e1, p1, e2, q1, _⟩ := h.pairs
  obtain ⟨f1, p2, f2, q2, _⟩ := h2.pairs
  subst e1 e2 f1 f2
  exact eqReg_same rt rq rv A A2 _ c c2 A' A2' _ c' c2' ps os wr hp hq p1 p2 q1 q2
theorem markVar_is {wr : World} {lo hi g : Nat} {A : Option Addr} {n c : Nat} {A' : Option Addr} {n' c' : Nat} {rt rq rv : Int} {ps : List (Int × Int)} {os : List Opn} (k : Int) (h : Var wr lo hi g A n c A' n' c' rt rq rv ps os) (hp : ps.length ≤ 1048577) (hq : os.length ≤ 1048577) (hk0 : 0 ≤ k) (hk1 : k ≤ 10000000) :
    Calls Tryz.prog 24 #[.agg #[.int .i64 rt, .int .i64 rq, .int .i64 rv, .slice A n c, .slice A' n' c'], .int .i64 k] wr fun e w' => e = .returned (.int .i64 (k + 2 * ps.length + 4 * os.length)) ∧ ∃ D D2, D.length = ps.length ∧ D2.length = os.length ∧ Marked k D ∧ MarkedQ (k + 2 * ps.length) D2 ∧ Var w' lo hi g A n c A' n' c' rt rq rv D D2 ∧ Band lo hi wr w' := by
  obtain ⟨l, B, hh, h1, h2, h3, h4, h5, h6, h7⟩ := h.lists
  have hw := h.hw
  refine (markReg_is rt rq rv k h6 h7 h2 h3 (by omega) hp hq hk0 hk1).mono ?_
  rintro e w' ⟨rfl, D, D2, hd1, hd2, hd3, hd4, hd5, hd6, hb⟩
  have hg0 := h.g0
  have hg1 := h.g1
  exact ⟨rfl, D, D2, hd1, hd2, hd3, hd4, ⟨h.box.band hb (by omega), hg0, hg1, Nat.le_trans hw hb.size, l, B, hh, h1, h2, h3, h4, h5, hd5, hd6⟩, ⟨hb.os, hb.tape, hb.output, hb.size, fun i hi' hx => hb.block i hi' (by omega)⟩⟩
theorem heldVar_is {wr : World} {lo hi g : Nat} {A : Option Addr} {n c : Nat} {A' : Option Addr} {n' c' : Nat} {rt rq rv : Int} {D : List (Int × Int)} {D2 : List Opn} (k : Int) (h : Var wr lo hi g A n c A' n' c' rt rq rv D D2) (hM : Marked k D) (hM2 : MarkedQ (k + 2 * D.length) D2) (hp : D.length ≤ 1048577) (hq : D2.length ≤ 1048577) (hk0 : 0 ≤ k) (hk1 : k ≤ 10000000) :
    Calls Tryz.prog 26 #[.agg #[.int .i64 rt, .int .i64 rq, .int .i64 rv, .slice A n c, .slice A' n' c'], .int .i64 k] wr fun e w' => e = .returned (.int .i64 (k + 2 * D.length + 4 * D2.length)) ∧ Below wr.heap.size wr w' := by
  obtain ⟨l, B, hh, h1, h2, h3, h4, h5, h6, h7⟩ := h.lists
  exact heldReg_is rt rq rv k h6 h7 hM hM2 hp hq hk0 hk1
theorem heldVarN_is {wr : World} {lo hi g : Nat} {A : Option Addr} {n c : Nat} {A' : Option Addr} {n' c' : Nat} {rt rq rv : Int} {D : List (Int × Int)} {D2 : List Opn} {N N2 : Nat} (k : Int) (h : Var wr lo hi g A n c A' n' c' rt rq rv D D2) (hN : D.length = N) (hN2 : D2.length = N2) (hM : Marked k D) (hM2 : MarkedQ (k + 2 * N) D2) (hp : N ≤ 1048577) (hq : N2 ≤ 1048577) (hk0 : 0 ≤ k) (hk1 : k ≤ 10000000) :
    Calls Tryz.prog 26 #[.agg #[.int .i64 rt, .int .i64 rq, .int .i64 rv, .slice A n c, .slice A' n' c'], .int .i64 k] wr fun e w' => e = .returned (.int .i64 (k + 2 * N + 4 * N2)) ∧ Below wr.heap.size wr w' := by
  subst hN hN2
  exact heldVar_is k h hM hM2 hp hq hk0 hk1
/-- A copy that the laws make, in a variable. -/
theorem var_made {w0 w5 : World} {g h n n' : Nat} {rt rq rv : Int} {ps : List (Int × Int)} {os : List Opn} (hn : ps.length = n) (hn' : os.length = n') (hg : w0.heap.size ≤ g) (hgh : g < h) (hP : Held w5 g ps) (hQ : HeldQ w5 h os) (hp : n ≤ maxLen) (hq : n' ≤ maxLen) :
    Var (w5.alloc (.cells #[.int .i64 rt, .int .i64 rq, .int .i64 rv, .slice (some ⟨g, 0, none⟩) n n, .slice (some ⟨h, 0, none⟩) n' n'] 32)) w0.heap.size (w5.alloc (.cells #[.int .i64 rt, .int .i64 rq, .int .i64 rv, .slice (some ⟨g, 0, none⟩) n n, .slice (some ⟨h, 0, none⟩) n' n'] 32)).heap.size w5.heap.size (some ⟨g, 0, none⟩) n n (some ⟨h, 0, none⟩) n' n' rt rq rv ps os := by
  subst hn hn'
  have hb := bel_alloc w5 (.cells #[.int .i64 rt, .int .i64 rq, .int .i64 rv, .slice (some ⟨g, 0, none⟩) ps.length ps.length, .slice (some ⟨h, 0, none⟩) os.length os.length] 32)
  have hl := hP.lt
  have hl2 := hQ.lt
  exact ⟨Box.new w5 _ _, by omega, by simp, Nat.le_refl _, w0.heap.size, g + 1, w5.heap.size, Nat.le_refl _, by omega, by omega, by simp, .inr (Nat.le_refl _), .inr ⟨g, _, hg, by omega, rfl, Nat.le_refl _, hp, hP.later hb⟩, .inr ⟨h, _, by omega, by omega, rfl, Nat.le_refl _, hq, hQ.later hb⟩⟩

end Go.Proofs.YtghdnokjgmmgiaaGreat
