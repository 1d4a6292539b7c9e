/- The exact law of JoinSeals answers true, whatever it is given: its walk. -/
import Derived.Test.YtdabmnhbmdaodaaJoin
import Derived.Test.YtdabmnhbmdaodaaCopiesSeal
import Derived.Test.YtdabmnhbmdaodaaSpecCert
namespace Go.Proofs.Ytdabmnhbmdaodaa
open Go.RowKit

/-- The list that is answered: nil, or in a block of its own; D is what stands there now. -/
def Res (wr : World) (B : Nat) (u : Value) (J D : List (Int × Int)) : Prop :=
  (u = .slice none 0 0 ∧ J = [] ∧ D = []) ∨ ∃ g cap, B ≤ g ∧ u = .slice (some ⟨g, 0, none⟩) J.length cap ∧ D.length = J.length ∧ Held wr g D
/-- What the laws of lists keep: what came in, the model's list, the program's list. -/
structure Ex (W wr : World) (B q : Nat) (u : Value) (J D : List (Int × Int)) : Prop where
  bel : Below W.heap.size W wr
  wB : W.heap.size ≤ B
  sB : B ≤ wr.heap.size
  w0 : Pairs wr B (some ⟨q, 0, none⟩) J.length J
  res : Res wr B u J D
theorem Ex.later {W wr w' : World} {B q : Nat} {u : Value} {J D : List (Int × Int)} (h : Ex W wr B q u J D) (hb : Below wr.heap.size wr w') : Ex W w' B q u J D := by
  refine ⟨bel_trans h.bel hb, h.wB, Nat.le_trans h.sB hb.size, h.w0.below hb h.sB, ?_⟩
  rcases h.res with h | ⟨g, cap, h1, h2, h3, h4⟩
  · exact .inl h
  · exact .inr ⟨g, cap, h1, h2, h3, h4.later hb⟩
theorem Held.kept {w w' : World} {g : Nat} {d : List (Int × Int)} {r : Option Nat} (h : Held w g d) (hg : w.grownBy w' r) (hne : r ≠ some g) : Held w' g d :=
  ⟨Nat.lt_of_lt_of_le h.lt hg.size, fun o => (hg.frozen_far ⟨g, o, none⟩ h.lt (fun e => hne e.symm)).trans (h.fr o), fun i hi => (hg.cell_far ⟨g, i * 2, none⟩ h.lt (fun e => hne e.symm)).trans (h.at0 i hi), fun i hi => (hg.cell_far ⟨g, i * 2 + 1, none⟩ h.lt (fun e => hne e.symm)).trans (h.at1 i hi)⟩
/-- A block of another copy is written. -/
theorem Ex.other {W wr w' : World} {B q x : Nat} {u : Value} {J D : List (Int × Int)} (h : Ex W wr B q u J D) (hg : wr.grownBy w' (some x)) (hx : B ≤ x) (hu : ∀ g cap, u = .slice (some ⟨g, 0, none⟩) J.length cap → g ≠ x) : Ex W w' B q u J D := by
  refine ⟨bel_grown h.bel hg (Nat.le_trans h.wB hx), h.wB, Nat.le_trans h.sB hg.size, h.w0.keep (fun p hp => hg.cell_far p (Nat.lt_of_lt_of_le hp h.sB) (by intro e; injection e with e; omega)), ?_⟩
  rcases h.res with h | ⟨g, cap, h1, h2, h3, h4⟩
  · exact .inl h
  · exact .inr ⟨g, cap, h1, h2, h3, h4.kept hg (by intro e; injection e with e; exact hu g cap h2 e.symm)⟩
theorem Ex.of {W w3 w5 w6 : World} {q : Nat} {u : Value} {J : List (Int × Int)} (hb3 : Below W.heap.size W w3) (hp : Pairs w3 w3.heap.size (some ⟨q, 0, none⟩) J.length J) (hb5 : Below w3.heap.size w3 w5) (ho : Own w5 u J w6) : Ex W w6 w3.heap.size q u J J := by
  have hb6 := bel_trans hb5 ho.2
  refine ⟨bel_trans hb3 hb6, hb3.size, hb6.size, hp.below hb6 (Nat.le_refl _), ?_⟩
  rcases ho.1 with ⟨h1, h2⟩ | ⟨g, cap, h1, h2, _, _, h3⟩
  · exact .inl ⟨h1, h2, h2⟩
  · exact .inr ⟨g, cap, Nat.le_trans hb5.size h1, h2, rfl, h3⟩

theorem eqRes_is {W wr : World} {B q : Nat} {u : Value} {J : List (Int × Int)} (c : Nat) (h : Ex W wr B q u J J) (hn : J.length ≤ 1048576) :
    Calls Try.prog 27 #[u, .slice (some ⟨q, 0, none⟩) J.length c] wr fun e w' => e = .returned (.bool true) ∧ Below wr.heap.size wr w' := by
  rcases h.res with ⟨rfl, h2, _⟩ | ⟨g, cap, _, rfl, _, h4⟩
  · have hp := h.w0.more h.sB
    rw [h2] at hp ⊢
    exact eqSeals_same none (some ⟨q, 0, none⟩) 0 0 c [] wr (by omega) ⟨rfl, fun h => absurd h (by omega)⟩ hp
  · exact eqSeals_same _ _ J.length cap c J wr hn h4.pairs (h.w0.more h.sB)
theorem markRes_is {W wr : World} {B q : Nat} {u : Value} {J D : List (Int × Int)} (h : Ex W wr B q u J D) (hn : J.length ≤ 1048576) :
    Calls Try.prog 28 #[u, .int .i64 1] wr fun e w' => e = .returned (.int .i64 (1 + 2 * J.length)) ∧ ∃ D', Marked 1 D' ∧ Ex W w' B q u J D' := by
  rcases h.res with ⟨rfl, h2, h3⟩ | ⟨g, cap, h1, rfl, h3, h4⟩
  · refine (mark_nil 1 wr).mono ?_
    rintro e w' ⟨rfl, rfl⟩
    exact ⟨by rw [h2]; rfl, D, by rw [h3]; intro j hj; simp at hj, h⟩
  · refine (mark_is g J.length cap 1 D wr (by omega) (by omega) (by omega) h3 h4).mono ?_
    rintro e w' ⟨rfl, D', hd1, hd2, hd3, hg⟩
    refine ⟨rfl, D', hd2, bel_grown h.bel hg (Nat.le_trans h.wB h1), h.wB, Nat.le_trans h.sB hg.size, h.w0.keep (fun p hp => hg.cell_far p (Nat.lt_of_lt_of_le hp h.sB) (by intro e; injection e with e; omega)), .inr ⟨g, cap, h1, rfl, hd1, hd3⟩⟩
theorem heldRes_is {W wr : World} {B q : Nat} {u : Value} {J D : List (Int × Int)} (h : Ex W wr B q u J D) (hM : Marked 1 D) (hn : J.length ≤ 1048576) :
    Calls Try.prog 29 #[u, .int .i64 1] wr fun e w' => e = .returned (.int .i64 (1 + 2 * J.length)) ∧ wr = w' := by
  rcases h.res with ⟨rfl, h2, h3⟩ | ⟨g, cap, h1, rfl, h3, h4⟩
  · refine (held_nil 1 wr).mono ?_
    rintro e w' ⟨rfl, rfl⟩
    exact ⟨by rw [h2]; rfl, rfl⟩
  · exact held_is g J.length cap 1 D wr (by omega) (by omega) (by omega) h3 hM h4
theorem Held.slc {w : World} {g n cap : Nat} {ps : List (Int × Int)} (h : Held w g ps) (hl : ps.length = n) : Slc w (.slice (some ⟨g, 0, none⟩) n cap) ps := .inr ⟨g, 0, n, cap, rfl, hl ▸ h.pairs⟩
theorem Held.prs {w : World} {g n : Nat} {ps : List (Int × Int)} (h : Held w g ps) (hl : ps.length = n) : Pairs w w.heap.size (some ⟨g, 0, none⟩) n ps := hl ▸ h.pairs
theorem Ex.apart {W wr w : World} {B q x : Nat} {u : Value} {J D : List (Int × Int)} (ho : Own w u J wr) (_h : Ex W wr B q u J D) (hx : x < w.heap.size) : ∀ g cap, u = .slice (some ⟨g, 0, none⟩) J.length cap → g ≠ x := by
  intro g cap hu
  rcases ho.1 with ⟨h1, _⟩ | ⟨g', cap', h1, h2, _⟩
  · rw [h1] at hu; cases hu
  · rw [h2] at hu
    injection hu with e1 _ _
    injection e1 with e1
    injection e1 with e1 _ _
    omega

set_option maxRecDepth 100000 in
set_option maxHeartbeats 4000000 in
theorem exactJoin_small (A : Option Addr) (n cap : Nat) (ps : List (Int × Int)) (A' : Option Addr) (n' cap' : Nat) (ps' : List (Int × Int)) (w : World) (hm : n + n' ≤ 1048576) (hp : Pairs w w.heap.size A n ps) (hp' : Pairs w w.heap.size A' n' ps') :
    Calls Try.prog 5 #[.slice A n cap, .slice A' n' cap'] w fun e w' => e = .returned (.bool true) ∧ Below w.heap.size w w' := by
  have hm1 : n ≤ 1048576 := by omega
  have hm2 : n' ≤ 1048576 := by omega
  obtain ⟨J, hJ⟩ : ∃ J, puts (ps ++ ps') = J := ⟨_, rfl⟩
  have hJl : J.length ≤ 1048576 := by
    rw [← hJ]
    have := puts_le (ps ++ ps')
    rw [List.length_append, hp.1, hp'.1] at this
    omega
  have HL := Lib.hid hp.1
  have HL' := Lib.hid hp'.1
  replace hJ := Lib.hid hJ
  have HP := Lib.hid hp
  have HP' := Lib.hid hp'
  clear hp hp'
  have hnn : ¬ ((1048576 : Int) - n < 0) := by omega
  have hnm : ¬ ((1048576 : Int) - n - n' < 0) := by omega
  go_enter Try.func5, Try.ntmps5
  go_wp2_with fail
  refine (szSeals_le A n cap 1048576 w (by omega) (by omega)).mono ?_
  rintro e w' ⟨rfl, rfl⟩
  go_wp2_with fail
  refine (szSeals_le A' n' cap' (1048576 - n) w (by omega) (by omega)).mono ?_
  rintro e w' ⟨rfl, rfl⟩
  go_wp2_with fail
  -- the model, on copies
  refine (toSeals_any A n cap ps w hm1 HP.out).mono ?_
  rintro e w1 ⟨g1, _, rfl, _, hh1, hb1⟩
  go_wp2_with fail
  refine (toSeals_any A' n' cap' ps' w1 hm2 (HP'.out.later hb1)).mono ?_
  rintro e w2 ⟨g2, _, rfl, _, hh2, hb2⟩
  have hp1 := (hh1.later hb2).prs HL.out
  have hp2 := hh2.prs HL'.out
  have E2 := bel_trans hb1 hb2
  clear hh1 hh2 hb1 hb2
  go_wp2_with fail
  refine (specJoin_is _ _ n n' n n' ps ps' w2 (by omega) hp1 hp2).mono ?_
  rintro e w3 ⟨q, c, rfl, hw0, hb3⟩
  rw [hJ.out] at hw0 ⊢
  have E3 := bel_trans E2 hb3
  clear hp1 hp2 E2 hb3
  go_wp2_with fail
  -- the copies that are handed in
  refine (toSeals_any A n cap ps w3 hm1 (HP.out.later E3)).mono ?_
  rintro e w4 ⟨x0, hx0, rfl, _, hh1, hb4⟩
  have E4 := bel_trans E3 hb4
  go_wp2_with fail
  refine (toSeals_any A' n' cap' ps' w4 hm2 (HP'.out.later E4)).mono ?_
  rintro e w5 ⟨x1, hx1, rfl, _, hh2, hb5⟩
  have hh1' := hh1.later hb5
  have hb35 := bel_trans hb4 hb5
  have hx01 : x0 ≠ x1 := by have := hh1.lt; omega
  have hx0l := hh1'.lt
  have hx1l := hh2.lt
  have hx1B : w3.heap.size ≤ x1 := Nat.le_trans hb4.size hx1
  clear hh1 hb4 hb5 E4
  -- the program
  go_wp2_with fail
  refine (join_is _ _ ps ps' w5 (by have := HL.out; have := HL'.out; omega) (hh1'.slc HL.out) (hh2.slc HL'.out)).mono ?_
  rintro e w6 ⟨u, rfl, hown⟩
  rw [hJ.out] at hown
  have K6 := Ex.of E3 hw0 hb35 hown
  have hap0 := Lib.hid (Ex.apart hown K6 hx0l)
  have hap1 := Lib.hid (Ex.apart hown K6 hx1l)
  have X0 := hh1'.later hown.2
  have X1 := hh2.later hown.2
  clear hw0 hb35 hh1' hh2 hown E3
  go_wp2_with fail
  refine (eqRes_is c K6 hJl).mono ?_
  rintro e w7 ⟨rfl, hb7⟩
  have K7 := K6.later hb7
  replace X0 := X0.later hb7
  replace X1 := X1.later hb7
  clear K6 hb7
  go_wp2_with fail
  refine (toSeals_any A n cap ps w7 hm1 (HP.out.later K7.bel)).mono ?_
  rintro e w8 ⟨g8, _, rfl, _, hh8, hb8⟩
  have K8 := K7.later hb8
  replace X0 := X0.later hb8
  replace X1 := X1.later hb8
  clear K7 hb8
  go_wp2_with fail
  refine (eqSeals_same _ _ n n n ps w8 hm1 (X0.prs HL.out) (hh8.prs HL.out)).mono ?_
  rintro e w9 ⟨rfl, hb9⟩
  have K9 := K8.later hb9
  replace X0 := X0.later hb9
  replace X1 := X1.later hb9
  clear K8 hb9 hh8
  go_wp2_with fail
  refine (toSeals_any A' n' cap' ps' w9 hm2 (HP'.out.later K9.bel)).mono ?_
  rintro e w10 ⟨g10, _, rfl, _, hh10, hb10⟩
  have K10 := K9.later hb10
  replace X0 := X0.later hb10
  replace X1 := X1.later hb10
  clear K9 hb10
  go_wp2_with fail
  refine (eqSeals_same _ _ n' n' n' ps' w10 hm2 (X1.prs HL'.out) (hh10.prs HL'.out)).mono ?_
  rintro e w11 ⟨rfl, hb11⟩
  have K11 := K10.later hb11
  replace X0 := X0.later hb11
  replace X1 := X1.later hb11
  clear K10 hb11 hh10
  -- the copies are written
  go_wp2_with fail
  refine (mark_is x0 n n 1 ps w11 (by omega) (by omega) (by omega) HL.out X0).mono ?_
  rintro e w12 ⟨rfl, d12, _, _, _, hg12⟩
  have K12 := K11.other hg12 hx0 hap0.out
  replace X1 := X1.kept hg12 (by intro e; injection e with e; exact hx01 e)
  clear K11 X0 hg12
  go_wp2_with fail
  refine (mark_is x1 n' n' (1 + 2 * n) ps' w12 (by omega) (by omega) (by omega) HL'.out X1).mono ?_
  rintro e w13 ⟨rfl, d13, _, _, _, hg13⟩
  have K13 := K12.other hg13 hx1B hap1.out
  clear K12 X1 hg13
  have hk0 : ¬ ((1 : Int) + 2 * n + 2 * n' < 0) := by omega
  go_wp2_with fail
  refine (eqRes_is c K13 hJl).mono ?_
  rintro e w14 ⟨rfl, hb14⟩
  have K14 := K13.later hb14
  clear K13 hb14
  -- the answer is written
  go_wp2_with fail
  refine (markRes_is K14 hJl).mono ?_
  rintro e w15 ⟨rfl, D, hD, K15⟩
  clear K14
  replace hD := Lib.hid hD
  go_wp2_with fail
  refine (heldRes_is K15 hD.out hJl).mono ?_
  rintro e w15' ⟨rfl, rfl⟩
  have hk1 : ¬ ((1 : Int) + 2 * J.length < 0) := by omega
  -- and it stays
  go_wp2_with fail
  refine (toSeals_any A n cap ps w15 hm1 (HP.out.later K15.bel)).mono ?_
  rintro e w16 ⟨g16, _, rfl, _, hh16, hb16⟩
  have K16 := K15.later hb16
  clear K15 hb16
  go_wp2_with fail
  refine (toSeals_any A' n' cap' ps' w16 hm2 (HP'.out.later K16.bel)).mono ?_
  rintro e w17 ⟨g17, _, rfl, _, hh17, hb17⟩
  have K17 := K16.later hb17
  replace hh16 := hh16.later hb17
  clear K16 hb17
  go_wp2_with fail
  refine (join_is _ _ ps ps' w17 (by have := HL.out; have := HL'.out; omega) (hh16.slc HL.out) (hh17.slc HL'.out)).mono ?_
  rintro e w18 ⟨u2, rfl, hown2⟩
  rw [hJ.out] at hown2
  have K18 := K17.later hown2.2
  have L18 : Ex w w18 w17.heap.size q u2 J J := Ex.of K17.bel (K17.w0.more K17.sB) (Below.refl _ _) hown2
  clear K17 hh16 hh17 hown2
  go_wp2_with fail
  refine (eqRes_is c L18 hJl).mono ?_
  rintro e w19 ⟨rfl, hb19⟩
  have K19 := K18.later hb19
  clear K18 L18 hb19
  go_wp2_with fail
  refine (heldRes_is K19 hD.out hJl).mono ?_
  rintro e w20 ⟨rfl, rfl⟩
  go_wp2
  go_ret
  exact ⟨rfl, K19.bel⟩
theorem exactJoin_big (A : Option Addr) (n cap : Nat) (A' : Option Addr) (n' cap' : Nat) (w : World) (hx : n ≤ maxLen) (hy : n' ≤ maxLen) (hm : 1048576 < n + n') :
    Calls Try.prog 5 #[.slice A n cap, .slice A' n' cap'] w fun e w' => e = .returned (.bool true) ∧ Below w.heap.size w w' := by
  have HX := Lib.hid hx
  have HY := Lib.hid hy
  rcases Nat.lt_or_ge 1048576 n with h | h
  · go_enter Try.func5, Try.ntmps5
    go_wp2_with (go_at_call 25; refine (szSeals_gt A n cap 1048576 w (by omega) (by omega) (by omega) HX.out).mono ?_; rintro e w2 ⟨rfl, rfl⟩)
    go_ret
    exact ⟨rfl, Below.refl _ _⟩
  · have hnn : ¬ ((1048576 : Int) - n < 0) := by omega
    go_enter Try.func5, Try.ntmps5
    go_wp2_with fail
    refine (szSeals_le A n cap 1048576 w (by omega) (by omega)).mono ?_
    rintro e w' ⟨rfl, rfl⟩
    go_wp2_with fail
    refine (szSeals_gt A' n' cap' (1048576 - n) w (by omega) (by omega) (by omega) HY.out).mono ?_
    rintro e w' ⟨rfl, rfl⟩
    go_wp2
    go_ret
    exact ⟨rfl, Below.refl _ _⟩

end Go.Proofs.Ytdabmnhbmdaodaa
