/- The library's stable sort over a slice of pairs, first part: what a slice of pairs holds, exchanging two of them, exchanging two ranges. -/
import Derived.Test.YtdabmnhbmdaodaaSortBase
import Derived.Test.YtdabmnhbmdaodaaSpecStamp
import Derived.BigRegion
namespace Go.Proofs.Ytdabmnhbmdaodaa
open Go.RowKit

/-- The block g holds these pairs, from its beginning. -/
structure Held (w : World) (g : Nat) (d : List (Int × Int)) : Prop where
  lt : g < w.heap.size
  fr : ∀ o, w.frozen? ⟨g, o, none⟩ = false
  at0 : ∀ i, i < d.length → w.cell? ⟨g, i * 2, none⟩ = some (.int .i64 (pth d i).1)
  at1 : ∀ i, i < d.length → w.cell? ⟨g, i * 2 + 1, none⟩ = some (.int .i64 (pth d i).2)
theorem Held.later {w w' : World} {g : Nat} {d : List (Int × Int)} (h : Held w g d) (hb : Below w.heap.size w w') : Held w' g d :=
  ⟨Nat.lt_of_lt_of_le h.lt hb.size, fun o => (hb.frozen (p := ⟨g, o, none⟩) h.lt).trans (h.fr o), fun i hi => (hb.cell (p := ⟨g, i * 2, none⟩) h.lt).trans (h.at0 i hi), fun i hi => (hb.cell (p := ⟨g, i * 2 + 1, none⟩) h.lt).trans (h.at1 i hi)⟩
theorem Held.drew {w : World} {g : Nat} {d : List (Int × Int)} (h : Held w g d) : Held w.drew g d := ⟨h.lt, h.fr, h.at0, h.at1⟩

theorem cell_set1 {w : World} {g i j : Nat} {u v : Value} (h : w.cell? ⟨g, i, none⟩ = some u) : (w.setCell ⟨g, j, none⟩ v).cell? ⟨g, i, none⟩ = some (if i = j then v else u) := by
  by_cases e : i = j
  · subst e
    rw [World.cell?_setCell_same _ _ _ h]
    simp
  · rw [World.cell?_setCell_other _ _ _ _ (fun e' => e (by injection e' with _ e'; exact e'.symm)), h]
    simp [e]

/-- One pair is written. -/
theorem Held.put {w : World} {g : Nat} {d : List (Int × Int)} (h : Held w g d) (i : Nat) (x : Int × Int) :
    Held ((w.setCell ⟨g, i * 2, none⟩ (.int .i64 x.1)).setCell ⟨g, i * 2 + 1, none⟩ (.int .i64 x.2)) g (d.set i x) := by
  refine ⟨by simp only [size_set]; exact h.lt, fun o => by simp [h.fr o], fun k hk => ?_, fun k hk => ?_⟩
  · rw [List.length_set] at hk
    rw [cell_set1 (cell_set1 (h.at0 k hk))]
    have e1 : ¬ k * 2 = i * 2 + 1 := by omega
    rw [if_neg e1]
    by_cases e : k = i
    · subst e; simp [pth, hk]
    · rw [if_neg (by omega)]; simp [pth, show ¬ i = k by omega]
  · rw [List.length_set] at hk
    rw [cell_set1 (cell_set1 (h.at1 k hk))]
    have e1 : ¬ k * 2 + 1 = i * 2 := by omega
    rw [if_neg e1]
    by_cases e : k = i
    · subst e; simp [pth, hk]
    · rw [if_neg (by omega)]; simp [pth, show ¬ i = k by omega]
/-- Two pairs are exchanged. -/
theorem Held.swap {w : World} {g : Nat} {d : List (Int × Int)} (h : Held w g d) (i j : Nat) {x y : Int × Int} (hx : pth d i = x) (hy : pth d j = y) :
    Held ((((w.setCell ⟨g, i * 2, none⟩ (.int .i64 y.1)).setCell ⟨g, i * 2 + 1, none⟩ (.int .i64 y.2)).setCell ⟨g, j * 2, none⟩ (.int .i64 x.1)).setCell ⟨g, j * 2 + 1, none⟩ (.int .i64 x.2)) g (swp d i j) := by
  subst hx hy
  exact (h.put i (pth d j)).put j (pth d i)
theorem grown_swap {a w : World} {g : Nat} (h : a.grownBy w (some g)) (i j k l : Nat) (p q r s : Value) :
    a.grownBy ((((w.setCell ⟨g, i, none⟩ p).setCell ⟨g, j, none⟩ q).setCell ⟨g, k, none⟩ r).setCell ⟨g, l, none⟩ s) (some g) :=
  grown_set (grown_set (grown_set (grown_set h _ _) _ _) _ _) _ _

theorem vint {a b : Int} (h : a = b) : Value.int .i64 a = Value.int .i64 b := by rw [h]
theorem take_more {l : List (Int × Int)} {k : Nat} {x : Int × Int} (h : l.drop k = x :: l.drop (k + 1)) : l.take (k + 1) = l.take k ++ [x] := by
  have hk : k < l.length := by
    rcases Nat.lt_or_ge k l.length with h' | h'
    · exact h'
    · rw [List.drop_of_length_le h'] at h; cases h
  rw [List.take_succ_eq_append_getElem hk]
  rw [List.drop_eq_getElem_cons hk] at h
  injection h with h1 _
  rw [h1]

/-- Nothing is answered; the block holds these now, and no other block is changed. -/
def Does (w : World) (g : Nat) (d : List (Int × Int)) (e : Ending) (w' : World) : Prop := e = .returned (.tuple #[]) ∧ Held w' g d ∧ w.grownBy w' (some g)

set_option maxHeartbeats 400000 in
theorem swapRange_any (g n cap a b m : Nat) (A U M V B : List (Int × Int)) (f : Value) (w : World) (hn : n ≤ 4194304) (hl : (A ++ (U ++ (M ++ (V ++ B)))).length = n)
    (hA : A.length = a) (hb : a + U.length + M.length = b) (hU : U.length = m) (hV : V.length = m) (H : Held w g (A ++ (U ++ (M ++ (V ++ B))))) :
    Calls Try.prog 105 #[.slice (some ⟨g, 0, none⟩) n cap, .int .i64 a, .int .i64 b, .int .i64 m, f] w (Does w g (A ++ (V ++ (M ++ (U ++ B))))) := by
  simp only [List.length_append] at hl
  have HH := Lib.hid H
  clear H
  go_enter Try.func105, Try.ntmps105
  go_wp2_with fail
  go_loopw [10] (fun i wr => ∃ k : Nat, k ≤ m ∧ i = .int .i64 k ∧ Held wr g (A ++ (V.take k ++ (U.drop k ++ (M ++ (U.take k ++ (V.drop k ++ B)))))) ∧ w.grownBy wr (some g)) (fun i _ => m - (intOf i).toNat)
  case atStart => exact ⟨0, Nat.zero_le _, rfl, by simpa using HH.out, grown_refl _ _⟩
  case round =>
    obtain ⟨k, hk, rfl, hh, hg⟩ := hrel
    by_cases hlt : k < m
    · obtain ⟨x, hx⟩ : ∃ x, U.drop k = x :: U.drop (k + 1) := ⟨U[k]'(by omega), List.drop_eq_getElem_cons (by omega)⟩
      obtain ⟨y, hy⟩ : ∃ y, V.drop k = y :: V.drop (k + 1) := ⟨V[k]'(by omega), List.drop_eq_getElem_cons (by omega)⟩
      generalize hd : (A ++ (V.take k ++ (U.drop k ++ (M ++ (U.take k ++ (V.drop k ++ B)))))) = d at hh
      have hdl : d.length = n := by subst hd; simp [List.length_append, List.length_take, List.length_drop]; omega
      have hpx : pth d (a + k) = x := pth_at (P := A ++ V.take k) (Q := U.drop (k + 1) ++ (M ++ (U.take k ++ (V.drop k ++ B)))) (by rw [← hd, hx]; simp) (by simp [List.length_take]; omega)
      have hpy : pth d (b + k) = y := pth_at (P := A ++ (V.take k ++ (U.drop k ++ (M ++ U.take k)))) (Q := V.drop (k + 1) ++ B) (by rw [← hd, hy]; simp) (by simp [List.length_take, List.length_drop]; omega)
      have c0 := hh.at0 (a + k) (by omega)
      have c1 := hh.at1 (a + k) (by omega)
      have c2 := hh.at0 (b + k) (by omega)
      have c3 := hh.at1 (b + k) (by omega)
      rw [hpx] at c0 c1
      rw [hpy] at c2 c3
      have fr := hh.fr
      have HS := Lib.hid (hh.swap (a + k) (b + k) hpx hpy)
      have hlt' : (k : Int) < (m : Int) := by omega
      have ha1 : (a : Int) + (k : Int) < n := by omega
      have ha2 : (b : Int) + (k : Int) < n := by omega
      obtain ⟨x, x'⟩ := x
      obtain ⟨y, y'⟩ := y
      go_wp2
      go_region
      go_wp2
      go_roundw
      case rel =>
        refine ⟨k + 1, by omega, by go_num, ?_, grown_drew (grown_swap hg _ _ _ _ _ _ _ _)⟩
        have hs : swp d (a + k) (b + k) = (A ++ (V.take (k + 1) ++ (U.drop (k + 1) ++ (M ++ (U.take (k + 1) ++ (V.drop (k + 1) ++ B)))))) := by
          refine swp_at (x := (x, x')) (y := (y, y')) (P := A ++ V.take k) (Q := U.drop (k + 1) ++ (M ++ U.take k)) (R := V.drop (k + 1) ++ B) (by rw [← hd, hx, hy]; simp) (by simp [List.length_take]; omega) (by simp [List.length_take, List.length_drop]; omega) ?_
          rw [take_more hx, take_more hy]
          simp
        rw [← hs]
        exact HS.out.drew
      case measure => simp [intOf]; omega
    · have hkm : k = m := by omega
      subst hkm
      go_wp2
      go_end0
      refine ⟨rfl, ?_, hg⟩
      rw [List.take_of_length_le (by omega), List.take_of_length_le (by omega), List.drop_of_length_le (by omega), List.drop_of_length_le (by omega)] at hh
      simpa using hh
/-- The same, the numbers as they come. -/
theorem swapRange_is (g n cap : Nat) (ai bi mi : Int) (A U M V B : List (Int × Int)) (f : Value) (w : World) (hn : n ≤ 4194304) (hl : A.length + U.length + M.length + V.length + B.length = n)
    (hA : ai = (A.length : Int)) (hb : bi = ((A.length + U.length + M.length : Nat) : Int)) (hm : mi = (U.length : Int)) (hV : V.length = U.length) (H : Held w g (A ++ (U ++ (M ++ (V ++ B))))) :
    Calls Try.prog 105 #[.slice (some ⟨g, 0, none⟩) n cap, .int .i64 ai, .int .i64 bi, .int .i64 mi, f] w (Does w g (A ++ (V ++ (M ++ (U ++ B))))) := by
  subst hA hb hm
  exact swapRange_any g n cap _ _ _ A U M V B f w hn (by simp only [List.length_append]; omega) rfl rfl rfl hV H

set_option maxRecDepth 100000 in
set_option maxHeartbeats 800000 in
theorem rotate_is (g n cap : Nat) (ai mi bi : Int) (A U V B : List (Int × Int)) (f : Value) (w : World) (hn : n ≤ 4194304) (hl : A.length + U.length + V.length + B.length = n)
    (hA : ai = (A.length : Int)) (hm : mi = ((A.length + U.length : Nat) : Int)) (hb : bi = ((A.length + U.length + V.length : Nat) : Int)) (hU : 0 < U.length) (hV : 0 < V.length) (H : Held w g (A ++ (U ++ (V ++ B)))) :
    Calls Try.prog 102 #[.slice (some ⟨g, 0, none⟩) n cap, .int .i64 ai, .int .i64 mi, .int .i64 bi, f] w (Does w g (A ++ (V ++ (U ++ B)))) := by
  have HH := Lib.hid H
  clear H
  generalize hb' : A.length + U.length + V.length = b at hb
  generalize hm' : A.length + U.length = m at hm hb'
  generalize ha' : A.length = a at hA hm' hl
  subst hA hm hb
  go_enter Try.func102, Try.ntmps102
  go_wp2_with fail
  go_loopw [10, 11] (fun i j wr => ∃ A' U' V' B' : List (Int × Int), 0 < U'.length ∧ 0 < V'.length ∧ A'.length + U'.length = m ∧ A'.length + U'.length + V'.length + B'.length = n ∧ i = .int .i64 U'.length ∧ j = .int .i64 V'.length ∧
      A' ++ (V' ++ (U' ++ B')) = A ++ (V ++ (U ++ B)) ∧ Held wr g (A' ++ (U' ++ (V' ++ B'))) ∧ w.grownBy wr (some g)) (fun i j _ => (intOf i).toNat + (intOf j).toNat)
  case atStart => exact ⟨A, U, V, B, hU, hV, by omega, by omega, vint (by omega), vint (by omega), rfl, HH.out, grown_refl _ _⟩
  case round =>
    obtain ⟨A', U', V', B', hu, hv, hAU, hlen, rfl, rfl, hgoal, hh, hg⟩ := hrel
    generalize hi : U'.length = i at hu hAU hlen
    generalize hj : V'.length = j at hv hlen
    rcases Nat.lt_trichotomy i j with hlt | heq | hgt
    · have hne : ((i : Int) == (j : Int)) = false := by simp; omega
      have hng : ¬ ((j : Int) < (i : Int)) := by omega
      go_wp2_with fail
      refine (swapRange_is g n cap _ _ _ A' U' (V'.take (j - i)) (V'.drop (j - i)) B' _ _ hn (by simp [List.length_take, List.length_drop]; omega) (by omega) (by simp [List.length_take]; omega) (by omega) (by simp [List.length_drop]; omega) (by rw [← List.append_assoc (V'.take _), List.take_append_drop]; exact hh)).mono ?_
      rintro e w1 ⟨rfl, hh1, hg1⟩
      go_wp2
      go_roundw
      case rel =>
        refine ⟨A', V'.drop (j - i), V'.take (j - i), U' ++ B', by simp [List.length_drop]; omega, by simp [List.length_take]; omega, by simp [List.length_drop]; omega, by simp [List.length_take, List.length_drop]; omega, vint (by simp [List.length_drop]; omega), vint (by simp [List.length_take]; omega), ?_, hh1, grown_trans hg hg1⟩
        rw [← hgoal, ← List.append_assoc (V'.take _), List.take_append_drop]
      case measure => simp [intOf]; omega
    · subst heq
      go_wp2_with fail
      refine (swapRange_is g n cap _ _ _ A' U' [] V' B' _ _ hn (by simp; omega) (by omega) (by simp; omega) (by omega) (by omega) (by simpa using hh)).mono ?_
      rintro e w1 ⟨rfl, hh1, hg1⟩
      go_wp2
      go_end0
      refine ⟨rfl, ?_, grown_trans hg hg1⟩
      rw [← hgoal]
      simpa using hh1
    · have hne : ((i : Int) == (j : Int)) = false := by simp; omega
      have hng : ((j : Int) < (i : Int)) := by omega
      go_wp2_with fail
      refine (swapRange_is g n cap _ _ _ A' (U'.take j) (U'.drop j) V' B' _ _ hn (by simp [List.length_take, List.length_drop]; omega) (by omega) (by simp [List.length_take, List.length_drop]; omega) (by simp [List.length_take]; omega) (by simp [List.length_take]; omega) (by rw [← List.append_assoc (U'.take _), List.take_append_drop]; exact hh)).mono ?_
      rintro e w1 ⟨rfl, hh1, hg1⟩
      go_wp2
      go_roundw
      case rel =>
        refine ⟨A' ++ V', U'.drop j, U'.take j, B', by simp [List.length_drop]; omega, by simp [List.length_take]; omega, by simp [List.length_drop]; omega, by simp [List.length_take, List.length_drop]; omega, vint (by simp [List.length_drop]; omega), vint (by simp [List.length_take]; omega), ?_, by simpa using hh1, grown_trans hg hg1⟩
        rw [← hgoal, ← List.append_assoc (U'.take _), List.take_append_drop]
        simp
      case measure => simp [intOf]; omega

end Go.Proofs.Ytdabmnhbmdaodaa
