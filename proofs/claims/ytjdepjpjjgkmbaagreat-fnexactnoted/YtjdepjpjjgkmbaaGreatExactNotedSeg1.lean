/- Words of chapter 4: what the functions of certificates compute; SealRight's contracts with the answer under a name; no conditions. -/
import Derived.Test.YtjdepjpjjgkmbaaGreatExactNotedSeg0
import Derived.Lib.SliceRun
import Derived.Laws.IdiomCopy
import Derived.Lib.AppendZerosOnto
import Derived.Laws.AppendOwnNone
import Derived.Deep.AppendLies
import Derived.Laws.Pointers
import Derived.Deep.RegionLaw
import Derived.Deep.CutBlock
import Derived.ChangeKeysEq

/- Words of the library's stable sort: a list that is made of runs in order; no conditions. -/
namespace Go.Proofs.YtjdepjpjjgkmbaaGreat
open Go.RowKit

/-- Runs in order, each of k, the last one of k or fewer. -/
inductive Runs (k : Nat) : List (Int × Int) → Prop
  | last {l : List (Int × Int)} : l.length ≤ k → Srt l → Runs k l
  | cons {x l : List (Int × Int)} : x.length = k → Srt x → Runs k l → Runs k (x ++ l)
/-- Runs in order, each of k. -/
inductive Full (k : Nat) : List (Int × Int) → Prop
  | nil : Full k []
  | snoc {l x : List (Int × Int)} : Full k l → x.length = k → Srt x → Full k (l ++ x)
theorem Runs.nil (k : Nat) : Runs k [] := .last (Nat.zero_le _) (by simp [Srt])
theorem Full.runs {k : Nat} {l r : List (Int × Int)} (h : Full k l) (hr : Runs k r) : Runs k (l ++ r) := by
  induction h generalizing r with
  | nil => exact hr
  | snoc _ hx hs ih => rw [List.append_assoc]; exact ih (.cons hx hs hr)
theorem Runs.small {k : Nat} {l : List (Int × Int)} (h : Runs k l) (hl : l.length ≤ k) : Srt l := by
  cases h with
  | last _ hs => exact hs
  | cons hx hs hr =>
    rename_i x r
    rw [List.length_append] at hl
    rw [List.length_eq_zero_iff.1 (by omega : r.length = 0), List.append_nil]
    exact hs
theorem Runs.split {k : Nat} {l : List (Int × Int)} (h : Runs k l) (hl : k < l.length) : ∃ x r, l = x ++ r ∧ x.length = k ∧ Srt x ∧ Runs k r := by
  cases h with
  | last hk _ => omega
  | cons hx hs hr => exact ⟨_, _, rfl, hx, hs, hr⟩
/-- The first two runs. -/
theorem Runs.two {k : Nat} {l : List (Int × Int)} (h0 : 0 < k) (h : Runs k l) (hl : k * 2 ≤ l.length) : ∃ x y r, l = x ++ (y ++ r) ∧ x.length = k ∧ y.length = k ∧ Srt x ∧ Srt y ∧ Runs k r := by
  obtain ⟨x, r, rfl, hx, hs, hr⟩ := h.split (by omega)
  rw [List.length_append] at hl
  rcases Nat.lt_or_ge k r.length with h | h
  · obtain ⟨y, r', rfl, hy, hs', hr'⟩ := hr.split h
    exact ⟨x, y, r', rfl, hx, hy, hs, hs', hr'⟩
  · exact ⟨x, r, [], by simp, hx, by omega, hs, hr.small h, Runs.nil k⟩

end Go.Proofs.YtjdepjpjjgkmbaaGreat

/- The library's stable sort over a slice of pairs: what was there is in order then, alike ones in the order that they had. -/
namespace Go.Proofs.YtjdepjpjjgkmbaaGreat
open Go.RowKit

/-- What a stable sort of all leaves. -/
def Stable (w : World) (g : Nat) (L : List (Int × Int)) (e : Ending) (w' : World) : Prop :=
  ∃ S : List (Int × Int), S.length = L.length ∧ Srt S ∧ Same S L ∧ Does w g S e w'

set_option maxRecDepth 100000 in
set_option maxHeartbeats 2000000 in
theorem stable_is (g n cap : Nat) (L : List (Int × Int)) (w : World) (hn : n ≤ 4194304) (hl : L.length = n) (H : Held w g L) :
    Calls Tryz.prog 256 #[.slice (some ⟨g, 0, none⟩) n cap, .int .i64 n, (.func (Fn.func 250) #[] #[])] w (Stable w g L) := by
  have HH := Lib.hid H
  have hl := Lib.hid hl
  rename_i q
  clear H q
  go_enter Tryz.func256, Tryz.ntmps256
  go_wp2_with fail
  go_loopw [7, 8] (fun av bv wr => ∃ (a b : Nat) (D R : List (Int × Int)), av = .int .i64 a ∧ bv = .int .i64 b ∧ a + 20 = b ∧ a ≤ n ∧ D.length = a ∧ a + R.length = n ∧ Full 20 D ∧ Same (D ++ R) L ∧ Held wr g (D ++ R) ∧ w.grownBy wr (some g)) (fun a _ _ => n - (intOf a).toNat)
  case atStart => exact ⟨0, 20, [], L, rfl, rfl, rfl, Nat.zero_le _, rfl, by rw [hl.out]; omega, .nil, Same.refl _, HH.out, grown_refl _ _⟩
  case round =>
    obtain ⟨a, b, D, R, rfl, rfl, hab, han, hD, hR, hF, hS, hh, hg⟩ := hrel
    by_cases hbn : b ≤ n
    · have hbn' : (b : Int) ≤ (n : Int) := by omega
      obtain ⟨c, hc, hc'⟩ : ∃ c : Nat, (b : Int) + 20 = (c : Int) ∧ b + 20 = c := ⟨b + 20, by omega, rfl⟩
      have hc' := Lib.hid hc'
      have hab := Lib.hid hab
      have hD := Lib.hid hD
      have hR := Lib.hid hR
      rename_i q1 q2 q3 q4
      clear q1 q2 q3 q4
      go_wp2_with fail
      refine (insSort_is g n cap _ _ D (R.take 20) (R.drop 20) _ hn (by have := hab.out; have := hD.out; have := hR.out; simp; omega) (by have := hD.out; omega) (by have := hab.out; have := hD.out; have := hR.out; simp; omega) (by rw [List.take_append_drop]; exact hh)).mono ?_
      rintro e w1 ⟨Z, hz1, hz2, hz3, rfl, hh1, hg1⟩
      have hz1 := Lib.hid hz1
      rename_i q1
      clear q1
      go_wp2
      go_roundw
      case rel =>
        have e1 := hab.out
        have e2 := hD.out
        have e3 := hR.out
        have e4 := hz1.out
        have e5 := hc'.out
        rw [List.length_take] at e4
        refine ⟨b, c, D ++ Z, R.drop 20, rfl, rfl, e5, hbn, by simp; omega, by simp; omega, .snoc hF (by omega) hz2, ?_, by simpa using hh1, grown_trans hg hg1⟩
        refine Same.trans ?_ hS
        rw [List.append_assoc]
        refine (Same.refl D).app ?_
        have := hz3.app (Same.refl (R.drop 20))
        rwa [List.take_append_drop] at this
      case measure => have := hab.out; simp [intOf]; omega
    · have hbn' : ¬ (b : Int) ≤ (n : Int) := by omega
      have hD := Lib.hid hD
      have hR := Lib.hid hR
      have hab := Lib.hid hab
      rename_i q1 q2 q3
      clear q1 q2 q3
      go_wp2_with fail
      refine (insSort_is g n cap _ _ D R [] _ hn (by have := hD.out; have := hR.out; simp; omega) (by have := hD.out; omega) (by have := hD.out; have := hR.out; omega) (by simpa using hh)).mono ?_
      rintro e w1 ⟨Z, hz1, hz2, hz3, rfl, hh1, hg1⟩
      have hstart : ∃ E : List (Int × Int), E.length = n ∧ Runs 20 E ∧ Same E L ∧ Held w1 g E := by
        have e1 := hab.out
        have e2 := hD.out
        have e3 := hR.out
        exact ⟨D ++ Z, by simp; omega, hF.runs (.last (by omega) hz2), ((Same.refl D).app hz3).trans hS, by simpa using hh1⟩
      have hgs := grown_trans hg hg1
      have hstart := Lib.hid hstart
      rename_i q1
      clear q1 hz1 hz2 hz3 hh1 hg1 hg hh hS hF hR hD hab
      go_wp2_with fail
      go_loopw [6] (fun kv wr => ∃ (k : Nat) (E : List (Int × Int)), kv = .int .i64 k ∧ 0 < k ∧ k ≤ 8388608 ∧ E.length = n ∧ Runs k E ∧ Same E L ∧ Held wr g E ∧ w.grownBy wr (some g)) (fun k _ => n - (intOf k).toNat)
      case atStart =>
        obtain ⟨E, h1, h2, h3, h4⟩ := hstart.out
        exact ⟨20, E, rfl, by omega, by omega, h1, h2, h3, h4, hgs⟩
      case round =>
        obtain ⟨k, E, rfl, hk0, hk1, hE, hruns, hS, hh, hg⟩ := hrel
        have hE := Lib.hid hE
        rename_i q1
        clear q1
        by_cases hkn : k < n
        · have hkn' : (k : Int) < (n : Int) := by omega
          obtain ⟨k2, hk2, hk2'⟩ : ∃ k2 : Nat, 2 * (k : Int) = (k2 : Int) ∧ k * 2 = k2 := ⟨k * 2, by omega, rfl⟩
          have hk3 : (k : Int) * 2 = (k2 : Int) := by omega
          have hk2' := Lib.hid hk2'
          rename_i q1
          clear q1
          have hk4 : k2 ≤ 8388608 := by have := hk2'.out; omega
          go_wp2_with fail
          go_loopw [7, 8] (fun av bv wr => ∃ (a b : Nat) (D R : List (Int × Int)), av = .int .i64 a ∧ bv = .int .i64 b ∧ a + k2 = b ∧ a ≤ n ∧ D.length = a ∧ a + R.length = n ∧ Full k2 D ∧ Runs k R ∧ Same (D ++ R) L ∧ Held wr g (D ++ R) ∧ w.grownBy wr (some g)) (fun a _ _ => n - (intOf a).toNat)
          case atStart => exact ⟨0, k2, [], E, rfl, rfl, by omega, Nat.zero_le _, rfl, by rw [hE.out]; omega, .nil, hruns, hS, hh, hg⟩
          case round =>
            obtain ⟨a, b, D, R, rfl, rfl, hab, han, hD, hR, hF, hruns, hS, hh, hg⟩ := hrel
            have hab := Lib.hid hab
            have hD := Lib.hid hD
            have hR := Lib.hid hR
            rename_i q1 q2 q3
            clear q1 q2 q3
            by_cases hbn : b ≤ n
            · have hbn' : (b : Int) ≤ (n : Int) := by omega
              obtain ⟨c, hc, hc'⟩ : ∃ c : Nat, (b : Int) + (k2 : Int) = (c : Int) ∧ b + k2 = c := ⟨b + k2, by omega, rfl⟩
              have hc' := Lib.hid hc'
              rename_i q1
              clear q1
              obtain ⟨x, y, r, hxy, hx, hy, hsx, hsy, hrr⟩ := hruns.two hk0 (by have := hab.out; have := hR.out; have := hk2'.out; omega)
              subst hxy
              have hR' := hR.out
              simp only [List.length_append] at hR'
              have hR' := Lib.hid hR'
              have hx := Lib.hid hx
              have hy := Lib.hid hy
              rename_i q1 q2 q3
              clear q1 q2 q3
              go_wp2_with fail
              refine (symMerge_is g n cap hn (x.length + y.length + 1) _ _ _ D x y r _ (by omega) (by have := hD.out; have := hR'.out; omega) (by have := hD.out; omega) (by have := hD.out; have := hx.out; omega) (by have := hab.out; have := hD.out; have := hx.out; have := hy.out; have := hk2'.out; omega) (by have := hx.out; omega) (by have := hy.out; omega) hsx hsy hh).mono ?_
              rintro e w1 ⟨Z, hz1, hz2, hz3, rfl, hh1, hg1⟩
              have hz1 := Lib.hid hz1
              rename_i q1
              clear q1
              go_wp2
              go_roundw
              case rel =>
                have e1 := hab.out
                have e2 := hD.out
                have e3 := hR'.out
                have e4 := hz1.out
                have e5 := hc'.out
                have e6 := hx.out
                have e7 := hy.out
                have e8 := hk2'.out
                rw [List.length_append] at e4
                refine ⟨b, c, D ++ Z, r, rfl, rfl, e5, hbn, by simp; omega, by omega, .snoc hF (by omega) hz2, hrr, ?_, by simpa using hh1, grown_trans hg hg1⟩
                refine Same.trans ?_ hS
                rw [List.append_assoc]
                refine (Same.refl D).app ?_
                have := hz3.app (Same.refl r)
                rwa [List.append_assoc x] at this
              case measure => have := hab.out; simp [intOf]; omega
            · have hbn' : ¬ (b : Int) ≤ (n : Int) := by omega
              obtain ⟨m, hm, hm'⟩ : ∃ m : Nat, (a : Int) + (k : Int) = (m : Int) ∧ a + k = m := ⟨a + k, by omega, rfl⟩
              have hm' := Lib.hid hm'
              rename_i q1
              clear q1
              by_cases hmn : m < n
              · have hmn' : (m : Int) < (n : Int) := by omega
                obtain ⟨x, y, hxy, hx, hsx, hry⟩ := hruns.split (by have := hR.out; have := hm'.out; omega)
                subst hxy
                have hR' := hR.out
                simp only [List.length_append] at hR'
                have hsy := hry.small (by have := hab.out; have := hk2'.out; omega)
                have hR' := Lib.hid hR'
                have hx := Lib.hid hx
                rename_i q1 q2
                clear q1 q2
                go_wp2_with fail
                refine (symMerge_is g n cap hn (x.length + y.length + 1) _ _ _ D x y [] _ (by omega) (by have := hD.out; have := hR'.out; simp; omega) (by have := hD.out; omega) (by have := hD.out; have := hx.out; have := hm'.out; omega) (by have := hD.out; have := hR'.out; omega) (by have := hx.out; omega) (by have := hR'.out; have := hx.out; have := hm'.out; omega) hsx hsy (by simpa using hh)).mono ?_
                rintro e w1 ⟨Z, hz1, hz2, hz3, rfl, hh1, hg1⟩
                have hz1 := Lib.hid hz1
                rename_i q1
                clear q1
                go_wp2
                go_roundw
                case rel =>
                  have e1 := hab.out
                  have e2 := hD.out
                  have e3 := hR'.out
                  have e4 := hz1.out
                  have e6 := hx.out
                  have e8 := hk2'.out
                  rw [List.length_append] at e4
                  exact ⟨k2, D ++ Z, rfl, by omega, hk4, by simp; omega, hF.runs (.last (by omega) hz2), ((Same.refl D).app hz3).trans hS, by simpa using hh1, grown_trans hg hg1⟩
                case measure => have := hk2'.out; simp [intOf]; omega
              · have hmn' : ¬ (m : Int) < (n : Int) := by omega
                have hsr := hruns.small (by have := hR.out; have := hm'.out; omega)
                go_wp2
                go_roundw
                case rel =>
                  have e2 := hD.out
                  have e3 := hR.out
                  have e5 := hm'.out
                  have e8 := hk2'.out
                  exact ⟨k2, D ++ R, rfl, by omega, hk4, by simp; omega, hF.runs (.last (by omega) hsr), hS, hh, hg⟩
                case measure => have := hk2'.out; simp [intOf]; omega
        · have hkn' : ¬ (k : Int) < (n : Int) := by omega
          go_wp2
          go_end0
          exact ⟨E, by rw [hE.out, hl.out], hruns.small (by rw [hE.out]; omega), hS, rfl, hh, hg⟩

end Go.Proofs.YtjdepjpjjgkmbaaGreat

/- The library's CompactFunc over a slice of pairs: of those with one first number side by side the first stays. -/
namespace Go.Proofs.YtjdepjpjjgkmbaaGreat
open Go.RowKit

theorem eqWho_any (a b c d : Int) (w : World) :
    Calls Tryz.prog 252 #[.agg #[.int .i64 a, .int .i64 b], .agg #[.int .i64 c, .int .i64 d]] w fun e w' => e = .returned (.bool (a == c)) ∧ Below w.heap.size w w' := by
  have hb := bel_trans (bel_alloc w (.cells #[.int .i64 a, .int .i64 b] 136)) (bel_alloc _ (.cells #[.int .i64 c, .int .i64 d] 136))
  have D := ((Box.new w 136 #[.int .i64 a, .int .i64 b]).alloc (.cells #[.int .i64 c, .int .i64 d] 136)).two
  have X := (Box.new (w.alloc (.cells #[.int .i64 a, .int .i64 b] 136)) 136 #[.int .i64 c, .int .i64 d]).two
  simp only [World.size_alloc] at X
  obtain ⟨d0, _⟩ := D
  obtain ⟨x0, _⟩ := X
  go_enter Tryz.func252, Tryz.ntmps252
  go_wp2
  go_ret
  exact ⟨rfl, hb⟩
theorem eqWho_is {a c : Int} {t : Bool} (h : (a == c) = t) (b d : Int) (w : World) :
    Calls Tryz.prog 252 #[.agg #[.int .i64 a, .int .i64 b], .agg #[.int .i64 c, .int .i64 d]] w fun e w' => e = .returned (.bool t) ∧ Below w.heap.size w w' := by
  rw [← h]
  exact eqWho_any a b c d w

/-- Pairs are cleared: the cells ahead of them stay. -/
theorem clear_pairs (w : World) (ty : TypeId) (g i m c : Nat) (d : List (Int × Int)) (hm : 0 < m) (hd : i + m ≤ d.length) (H : Held w g d) :
    ∃ vs : List Value, (Builtin.clear_ #[40] ty #[.slice (some ⟨g, i * 2, none⟩) m c]).run Tryz.prog w = .ok (.tuple #[]) (w.setCells g (i * 2) vs) := by
  have hz : (Value.agg #[.int .i64 0, .int .i64 0]).cells = #[.int .i64 0, .int .i64 0] := by rfl
  have hall : ∀ v ∈ (Builtin.zeroCells #[.int .i64 0, .int .i64 0] m).toList, v.oneCell' = true := by
    intro v hv
    simp only [Builtin.zeroCells, Array.toList_map, List.mem_map] at hv
    obtain ⟨j, _, rfl⟩ := hv
    have hj : j % 2 = 0 ∨ j % 2 = 1 := by omega
    rcases hj with hj | hj <;> simp [hj, Value.oneCell']
  have hlen : (Builtin.zeroCells #[.int .i64 0, .int .i64 0] m).toList.length = m * 2 := by simp [Builtin.zeroCells]
  have hst := run_storeCells_cells (P := Tryz.prog) g (i * 2) (Builtin.zeroCells #[.int .i64 0, .int .i64 0] m).toList 0 w (fun j hj => by
    rw [hlen] at hj
    have h2 : j % 2 = 0 ∨ j % 2 = 1 := by omega
    rcases h2 with h2 | h2
    · rw [show i * 2 + 0 + j = (i + j / 2) * 2 by omega, H.at0 _ (by omega)]; rfl
    · rw [show i * 2 + 0 + j = (i + j / 2) * 2 + 1 by omega, H.at1 _ (by omega)]; rfl) (fun j _ => H.fr _) hall
  simp only [Nat.add_zero] at hst
  refine ⟨(Builtin.zeroCells #[.int .i64 0, .int .i64 0] m).toList, ?_⟩
  obtain ⟨k, rfl⟩ : ∃ k, m = k + 1 := ⟨m - 1, by omega⟩
  simp [Builtin.clear_, run_underlying Tryz.underlying40, hz, hst]
theorem size_setCells (w : World) (g o : Nat) (vs : List Value) : (w.setCells g o vs).heap.size = w.heap.size := by
  induction vs generalizing w o with
  | nil => rfl
  | cons v vs ih => rw [World.setCells, ih, size_set]
theorem Held.cut {w : World} {g i : Nat} {d c : List (Int × Int)} (H : Held w g d) (hi : d.take i = c) (hl : c.length = i) (vs : List Value) : Held (w.setCells g (i * 2) vs) g c := by
  subst hi
  rw [List.length_take] at hl
  refine ⟨by rw [size_setCells]; exact H.lt, fun o => by rw [World.frozen?_setCells]; exact H.fr o, fun k hk => ?_, fun k hk => ?_⟩
  · rw [List.length_take] at hk
    rw [World.cell?_setCells_out g vs _ _ _ (fun _ _ => .inl (by simp; omega)), H.at0 k (by omega), pth_take (by omega)]
  · rw [List.length_take] at hk
    rw [World.cell?_setCells_out g vs _ _ _ (fun _ _ => .inl (by simp; omega)), H.at1 k (by omega), pth_take (by omega)]
theorem grown_setCells {a b : World} {g : Nat} (h : a.grownBy b (some g)) (o : Nat) (vs : List Value) : a.grownBy (b.setCells g o vs) (some g) := by
  induction vs generalizing b o with
  | nil => exact h
  | cons v vs ih => rw [World.setCells]; exact ih (grown_set h _ _) _
theorem Held.take {w : World} {g : Nat} {d : List (Int × Int)} (H : Held w g d) (i : Nat) : Held w g (d.take i) := by
  refine ⟨H.lt, H.fr, fun k hk => ?_, fun k hk => ?_⟩
  · rw [List.length_take] at hk
    rw [H.at0 k (by omega), pth_take (by omega)]
  · rw [List.length_take] at hk
    rw [H.at1 k (by omega), pth_take (by omega)]

/-- What is left in the slice. -/
def Kept (w : World) (g cap : Nat) (C : List (Int × Int)) (e : Ending) (w' : World) : Prop :=
  e = .returned (.slice (some ⟨g, 0, none⟩) C.length cap) ∧ Held w' g C ∧ w.grownBy w' (some g)
/-- As far as the place j: i are kept, at the front. -/
def CompAt (S d : List (Int × Int)) (i j : Nat) : Prop :=
  d.length = S.length ∧ (cmpct (S.take j)).length = i ∧ d.take i = cmpct (S.take j) ∧ i < j ∧ ∀ q, j ≤ q + 1 → pth d q = pth S q
theorem CompAt.skip {S d : List (Int × Int)} {i j : Nat} (h : CompAt S d i j) (h0 : 0 < j) (hj : j < S.length) (he : (pth S j).1 = (pth S (j - 1)).1) : CompAt S d i (j + 1) := by
  obtain ⟨h1, h2, h3, h4, h5⟩ := h
  have := cmpct_take h0 hj
  rw [if_pos he, List.append_nil] at this
  exact ⟨h1, by rw [this]; exact h2, by rw [this]; exact h3, by omega, fun q hq => h5 q (by omega)⟩
theorem CompAt.keep {S d : List (Int × Int)} {i j : Nat} (h : CompAt S d i j) (h0 : 0 < j) (hj : j < S.length) (he : (pth S j).1 ≠ (pth S (j - 1)).1) : CompAt S (d.set i (pth S j)) (i + 1) (j + 1) := by
  obtain ⟨h1, h2, h3, h4, h5⟩ := h
  have := cmpct_take h0 hj
  rw [if_neg he] at this
  refine ⟨by simpa using h1, by rw [this]; simp [h2], ?_, by omega, fun q hq => ?_⟩
  · rw [this, ← h3, List.take_succ_eq_append_getElem (by simp; omega)]
    simp [List.take_set_of_le]
  · rw [← h5 q (by omega)]
    simp [pth, show ¬ i = q by omega]

set_option maxRecDepth 100000 in
set_option maxHeartbeats 1000000 in
theorem compact_is (g n cap : Nat) (S : List (Int × Int)) (w : World) (hn : n ≤ 4194304) (hnc : n ≤ cap) (hcm : cap ≤ maxLen) (hl : S.length = n) (H : Held w g S) :
    Calls Tryz.prog 251 #[.slice (some ⟨g, 0, none⟩) n cap, (.func (Fn.func 252) #[] #[])] w (Kept w g cap (cmpct S)) := by
  unfold maxLen at hcm
  have HH := Lib.hid H
  have hl := Lib.hid hl
  rename_i q
  clear H q
  by_cases hn2 : n < 2
  · have hn2' : (n : Int) < 2 := by omega
    go_enter Tryz.func251, Tryz.ntmps251
    go_wp2
    go_ret
    have e : cmpct S = S := by
      match S, hl.out with
      | [], _ => rfl
      | [x], _ => rfl
      | x :: y :: S, h => simp only [List.length_cons] at h; omega
    rw [e]
    exact ⟨by rw [hl.out]; rfl, HH.out, grown_refl _ _⟩
  · have hn2' : ¬ (n : Int) < 2 := by omega
    go_enter Tryz.func251, Tryz.ntmps251
    go_wp2_with fail
    go_loopw [5] (fun iv wr => ∃ i : Nat, iv = .int .i64 i ∧ 0 < i ∧ i ≤ n ∧ cmpct (S.take i) = S.take i ∧ Below w.heap.size w wr) (fun i _ => n - (intOf i).toNat)
    case atStart =>
      refine ⟨1, rfl, by omega, by omega, ?_, Below.refl _ _⟩
      match S with
      | [] => rfl
      | x :: S => simp [cmpct, cfrom]
    case round =>
      obtain ⟨i, rfl, hi0, hin, hcmp, hbel⟩ := hrel
      have hcmp := Lib.hid hcmp
      rename_i q
      clear q
      by_cases hlt : i < n
      · have hlt' : (i : Int) < (n : Int) := by omega
        obtain ⟨p, hp, hp'⟩ : ∃ p : Nat, (i : Int) - 1 = (p : Int) ∧ p + 1 = i := ⟨i - 1, by omega, by omega⟩
        have hpn : (p : Int) < (n : Int) := by omega
        have hh := HH.out.later hbel
        have c0 := hh.at0 i (by rw [hl.out]; exact hlt)
        have c1 := hh.at1 i (by rw [hl.out]; exact hlt)
        have c2 := hh.at0 p (by rw [hl.out]; omega)
        have c3 := hh.at1 p (by rw [hl.out]; omega)
        have g0 := After.cell (by exact hh.lt) c0
        have g1 := After.cell (by exact hh.lt) c1
        have g2 := After.cell (by exact hh.lt) c2
        have g3 := After.cell (by exact hh.lt) c3
        have hstep := Lib.hid (cmpct_take hi0 (by rw [hl.out]; exact hlt : i < S.length))
        have hp' := Lib.hid hp'
        rename_i q
        clear q c0 c1 c2 c3 hh
        rw [show i - 1 = p by have := hp'.out; omega] at hstep
        generalize hu : pth S i = u at g0 g1 hstep
        generalize hv : pth S p = v at g2 g3 hstep
        have hu := Lib.hid hu
        have hv := Lib.hid hv
        rename_i q1 q2
        clear q1 q2
        obtain ⟨u, u'⟩ := u
        obtain ⟨v, v'⟩ := v
        by_cases huv : u = v
        · subst huv
          have hs : (u == u) = true := by simp
          have K0 : CompAt S S i (i + 1) := by
            have e1 := hstep.out
            rw [if_pos rfl, List.append_nil, hcmp.out] at e1
            exact ⟨rfl, by rw [e1, List.length_take, hl.out]; omega, e1.symm, by omega, fun q _ => rfl⟩
          have K0 := Lib.hid K0
          rename_i q
          clear q
          go_wp2_with fail
          refine wp_region_after (by kernel_rfl) (by kernel_rfl) ?_
          repeat (first | go_big_quiet_step ((go_at_call 252; exact after_of (eqWho_is hs u' v' _))) | quiet_step ((go_at_call 252; exact after_of (eqWho_is hs u' v' _))))
          refine wpQuiet_nil ?_
          intro pw
          have E := bel_trans hbel pw.bel
          clear g0 g1 g2 g3
          go_wp2_with fail
          go_loopw [5, 7] (fun iv kv wr => ∃ (i' k : Nat) (d : List (Int × Int)), iv = .int .i64 i' ∧ kv = .int .i64 k ∧ 0 < k ∧ i + k ≤ n ∧ CompAt S d i' (i + k) ∧ Held wr g d ∧ w.grownBy wr (some g)) (fun _ k _ => n - (intOf k).toNat)
          case atStart => exact ⟨i, 1, S, rfl, rfl, by omega, by omega, K0.out, HH.out.later E, grown_bel E _⟩
          case round =>
            obtain ⟨i', k, d, rfl, rfl, hk0, hkn, hK, hh, hg⟩ := hrel
            have hK4 := hK.2.2.2.1
            have hK1 := hK.1
            by_cases hlt2 : i + k < n
            · have hlt2' : (k : Int) < ((n - i : Nat) : Int) := by omega
              obtain ⟨r, hr, hr'⟩ : ∃ r : Nat, (k : Int) - 1 = (r : Int) ∧ r + 1 = k := ⟨k - 1, by omega, by omega⟩
              have hrn : (r : Int) < ((n - i : Nat) : Int) := by omega
              have c0 := hh.at0 (i + k) (by rw [hK1, hl.out]; exact hlt2)
              have c1 := hh.at1 (i + k) (by rw [hK1, hl.out]; exact hlt2)
              have c2 := hh.at0 (i + r) (by rw [hK1, hl.out]; omega)
              have c3 := hh.at1 (i + r) (by rw [hK1, hl.out]; omega)
              have c4 := hh.at0 i' (by rw [hK1, hl.out]; omega)
              have c5 := hh.at1 i' (by rw [hK1, hl.out]; omega)
              rw [hK.2.2.2.2 (i + k) (by omega)] at c0 c1
              rw [hK.2.2.2.2 (i + r) (by omega)] at c2 c3
              have hskip := Lib.hid (hK.skip (by omega) (by rw [hl.out]; exact hlt2))
              have hkeep := Lib.hid (hK.keep (by omega) (by rw [hl.out]; exact hlt2))
              rw [show i + k - 1 = i + r by omega] at hskip hkeep
              generalize hx : pth S (i + k) = x at c0 c1 hskip hkeep
              generalize hy : pth S (i + r) = y at c2 c3 hskip hkeep
              have HS := Lib.hid (fun (W : World) (h : Held W g d) => h.put i' x)
              have hx := Lib.hid hx
              have hy := Lib.hid hy
              have hK1 := Lib.hid hK1
              have hr' := Lib.hid hr'
              rw [show (i + k) * 2 = i * 2 + k * 2 by omega] at c0 c1
              rw [show (i + r) * 2 = i * 2 + r * 2 by omega] at c2 c3
              have g0 := After.cell (by exact hh.lt) c0
              have g1 := After.cell (by exact hh.lt) c1
              have g2 := After.cell (by exact hh.lt) c2
              have g3 := After.cell (by exact hh.lt) c3
              have g4 := After.cell (by exact hh.lt) c4
              have g5 := After.cell (by exact hh.lt) c5
              have hin' : (i' : Int) < (n : Int) := by omega
              have hk8 : (k : Int) ≤ 4194304 := by omega
              rename_i q1 q2 q3 q4
              clear q1 q2 q3 q4 c0 c1 c2 c3 c4 c5 hK
              have hh := Lib.hid hh
              rename_i q1
              clear q1
              obtain ⟨x, x'⟩ := x
              obtain ⟨y, y'⟩ := y
              by_cases hxy : x = y
              · have K1 := Lib.hid (hskip.out hxy)
                subst hxy
                have hs : (x == x) = true := by simp
                go_wp2_with fail
                refine wp_region_after (by kernel_rfl) (by kernel_rfl) ?_
                repeat (first | go_big_quiet_step ((go_at_call 252; exact after_of (eqWho_is hs x' y' _))) | quiet_step ((go_at_call 252; exact after_of (eqWho_is hs x' y' _))))
                refine wpQuiet_nil ?_
                intro pw
                have hh3 := hh.out.later pw.bel
                have hg3 := grown_trans hg (grown_bel pw.bel (some g))
                clear g0 g1 g2 g3 g4 g5
                go_wp2
                go_roundw
                case rel => exact ⟨i', k + 1, d, rfl, by go_num, by omega, by omega, K1.out, hh3, hg3⟩
                case measure => simp [intOf]; omega
              · have K1 := Lib.hid (hkeep.out hxy)
                have hs : (x == y) = false := by simp [hxy]
                have hxy := Lib.hid hxy
                rename_i q1
                clear q1
                go_wp2_with fail
                refine wp_region_after (by kernel_rfl) (by kernel_rfl) ?_
                repeat (first | go_big_quiet_step ((go_at_call 252; exact after_of (eqWho_is hs x' y' _))) | quiet_step ((go_at_call 252; exact after_of (eqWho_is hs x' y' _))))
                refine wpQuiet_nil ?_
                intro pw
                have hh3 := hh.out.later pw.bel
                have hg3 := grown_trans hg (grown_bel pw.bel (some g))
                have d0 := g0 pw
                have d1 := g1 pw
                have d4 := g4 pw
                have d5 := g5 pw
                have fr := hh3.fr
                have HP := Lib.hid (hh3.put i' (x, x'))
                clear g0 g1 g2 g3 g4 g5 hh3
                go_wp2
                go_roundw
                case rel => exact ⟨i' + 1, k + 1, d.set i' (x, x'), by go_num, by go_num, by omega, by omega, K1.out, HP.out, grown_set (grown_set hg3 _ _) _ _⟩
                case measure => simp [intOf]; omega
            · have hend : i + k = n := by omega
              have hK' : (cmpct S).length = i' ∧ d.take i' = cmpct S := by
                have h2 := hK.2.1
                have h3 := hK.2.2.1
                rw [hend, ← hl.out, List.take_length] at h2 h3
                exact ⟨h2, h3⟩
              have hend := Lib.hid hend
              obtain ⟨vs, hvs⟩ := clear_pairs wr 0 g i' (n - i') (cap - i') d (by omega) (by rw [hK1, hl.out]; omega) hh
              have hcl : ∀ ty, (Builtin.clear_ #[40] ty #[.slice (some ⟨g, i' * 2, none⟩) (n - i') (cap - i')]).run Tryz.prog wr = .ok (.tuple #[]) (wr.setCells g (i' * 2) vs) := fun ty => hvs
              have hlt2' : ¬ (k : Int) < ((n - i : Nat) : Int) := by omega
              have hK3 := Lib.hid hK'
              have hh := Lib.hid hh
              rename_i q1 q2
              clear q1 q2 hK hK' hvs hK1
              go_wp2
              go_ret
              rw [show i' = (cmpct S).length from hK3.out.1.symm]
              exact ⟨rfl, by rw [hK3.out.1]; exact hh.out.cut hK3.out.2 hK3.out.1 vs, grown_setCells hg _ vs⟩
        · have hs : (u == v) = false := by simp [huv]
          have K1 : cmpct (S.take (i + 1)) = S.take (i + 1) := by
            have e1 := hstep.out
            rw [if_neg huv, hcmp.out] at e1
            rw [e1, List.take_succ_eq_append_getElem (by rw [hl.out]; exact hlt), ← pth_lt (by rw [hl.out]; exact hlt), hu.out]
          have K1 := Lib.hid K1
          have huv := Lib.hid huv
          rename_i q1 q2
          clear q1 q2
          go_wp2_with fail
          refine wp_region_after (by kernel_rfl) (by kernel_rfl) ?_
          repeat (first | go_big_quiet_step ((go_at_call 252; exact after_of (eqWho_is hs u' v' _))) | quiet_step ((go_at_call 252; exact after_of (eqWho_is hs u' v' _))))
          refine wpQuiet_nil ?_
          intro pw
          have E := bel_trans hbel pw.bel
          clear g0 g1 g2 g3
          go_wp2
          go_roundw
          case rel => exact ⟨i + 1, by go_num, by omega, by omega, K1.out, E⟩
          case measure => simp [intOf]; omega
      · obtain rfl : i = n := by omega
        go_wp2
        go_ret
        have e := hcmp.out
        rw [← hl.out, List.take_length] at e
        rw [e]
        exact ⟨by rw [hl.out]; rfl, HH.out.later hbel, grown_bel hbel _⟩

end Go.Proofs.YtjdepjpjjgkmbaaGreat

/- The library's Grow and Concat over slices of pairs: two of them, one behind the other, in memory of their own. -/
namespace Go.Proofs.YtjdepjpjjgkmbaaGreat
open Go.RowKit

set_option maxRecDepth 100000 in
set_option maxHeartbeats 1000000 in
/-- Room for n pairs, none of them there yet. -/
theorem grow_is (n : Nat) (w : World) (hn : n ≤ 4194304) :
    Calls Tryz.prog 255 #[.slice none 0 0, .int .i64 n] w fun e w' => ∃ v, e = .returned v ∧ w'.ownsRow w.heap.size 136 2 v 0 [] ∧ Below w.heap.size w w' := by
  obtain ⟨i0, hi0, hz0, hz1, hz2⟩ := info_parts Tryz.infoSealI
  rcases Nat.eq_zero_or_pos n with rfl | hpos
  · go_enter Tryz.func255, Tryz.ntmps255
    go_wp2
    go_ret
    exact ⟨_, rfl, World.ownsRow_nil w _ _ _, Below.refl _ _⟩
  · have hrz : ∀ ty, (Builtin.append_ #[40, 3] ty #[.slice none 0 0, .int .i64 (n : Int)]).run Tryz.prog w =
        .ok (.slice (some ⟨w.heap.size, 0, none⟩) n (grownCap w n 0 136)) (w.drew.alloc (.cells (#[] ++ Builtin.zeroCells (Value.agg #[.int .i64 0, .int .i64 0]).cells n ++ Builtin.zeroCells (Value.agg #[.int .i64 0, .int .i64 0]).cells (grownCap w n 0 136 - n)) 136)) := fun ty => by
      have h := Lib.run_append_grow_zeros w 40 3 ty 136 i0 _ .i64 .i64 Tryz.underlying40 Tryz.underlying3 hi0 hz0 none 0 0 [] (run_firstCells_none w.drew i0.size 0 0 0) n (by omega) (by omega) (by omega) (by omega)
        (by rw [hz2]; omega) (by rw [Nat.zero_add]; exact growslice_fits hpos (by rw [hz2]; omega))
      simpa using h
    have hGn := grownCap_ge w n 0 136
    have hGm := grownCap_le_maxLen w n 0 136 (by unfold maxLen; omega)
    generalize grownCap w n 0 136 = G at hrz hGn hGm
    have hG := Lib.hid hGm
    unfold maxLen at hGm
    have hp : (0 : Int) < (n : Int) := by omega
    go_enter Tryz.func255, Tryz.ntmps255
    go_wp2_with (at_builtin; refine Lib.wpList_append_run _ rfl _ _ _ _ rfl _ _ rfl rfl _ _ (hrz _) ?_)
    go_ret
    refine ⟨_, rfl, ?_, ((Below.refl _ _).drew).alloc (Nat.le_refl _) _⟩
    exact World.ownsRow_made w.drew _ G (Nat.le_refl _) hG.out (by simp [size_zeroCells]; show n * 2 + (G - n) * 2 = G * 2; omega)

/-- A slice of pairs: nil, or somewhere. -/
def Slc (w : World) (v : Value) (ps : List (Int × Int)) : Prop :=
  (v = .slice none 0 0 ∧ ps = []) ∨ ∃ b o n cap, v = .slice (some ⟨b, o, none⟩) n cap ∧ Pairs w w.heap.size (some ⟨b, o, none⟩) n ps
theorem Slc.later {w w' : World} {v : Value} {ps : List (Int × Int)} (h : Slc w v ps) (hb : Below w.heap.size w w') : Slc w' v ps := by
  rcases h with h | ⟨b, o, n, cap, rfl, hp⟩
  · exact .inl h
  · exact .inr ⟨b, o, n, cap, rfl, hp.later hb⟩

set_option maxRecDepth 100000 in
set_option maxHeartbeats 1000000 in
theorem concat_is (q : Nat) (v v' : Value) (ps ps' : List (Int × Int)) (w : World) (hn : ps.length + ps'.length ≤ 4194304) (Q : Box w q 40 #[v, v']) (h : Slc w v ps) (h' : Slc w v' ps') :
    Calls Tryz.prog 248 #[.slice (some ⟨q, 0, none⟩) 2 2] w fun e w' => ∃ u, e = .returned u ∧ w'.ownsRow w.heap.size 136 2 u (ps.length + ps'.length) (flatP (ps ++ ps')) ∧ Below w.heap.size w w' := by
  obtain ⟨i0, hi0, hz0, hz1, hz2⟩ := info_parts Tryz.infoSealI
  have hq := Q.lt
  obtain ⟨A, n, cap, hv, hpn⟩ : ∃ (A : Option Addr) (n cap : Nat), v = .slice A n cap ∧ ps.length = n := by
    rcases h with ⟨rfl, rfl⟩ | ⟨b, o, n, cap, rfl, hp⟩
    · exact ⟨_, _, _, rfl, rfl⟩
    · exact ⟨_, _, _, rfl, hp.1⟩
  obtain ⟨A', n', cap', hv', hpn'⟩ : ∃ (A : Option Addr) (n cap : Nat), v' = .slice A n cap ∧ ps'.length = n := by
    rcases h' with ⟨rfl, rfl⟩ | ⟨b, o, n, cap, rfl, hp⟩
    · exact ⟨_, _, _, rfl, rfl⟩
    · exact ⟨_, _, _, rfl, hp.1⟩
  subst hv hv'
  rw [hpn, hpn'] at hn ⊢
  have HQ := Lib.hid Q
  have HS := Lib.hid h
  have HS' := Lib.hid h'
  have hpn := Lib.hid hpn
  have hpn' := Lib.hid hpn'
  rename_i q1 q2
  clear Q h h' q1 q2
  obtain ⟨s, hs, hs'⟩ : ∃ s : Nat, (n : Int) + (n' : Int) = (s : Int) ∧ n + n' = s := ⟨n + n', by omega, rfl⟩
  have hs' := Lib.hid hs'
  rename_i q1
  clear q1
  go_enter Tryz.func248, Tryz.ntmps248
  go_wp2_with fail
  go_loopw [3, 11] (fun sv iv wr => wr = w ∧ ((sv = .int .i64 0 ∧ iv = .int .i64 0) ∨ (sv = .int .i64 n ∧ iv = .int .i64 1) ∨ (sv = .int .i64 s ∧ iv = .int .i64 2))) (fun _ i _ => 2 - (intOf i).toNat)
  case atStart => exact ⟨rfl, .inl ⟨rfl, rfl⟩⟩
  case round =>
    obtain ⟨rfl, ⟨rfl, rfl⟩ | ⟨rfl, rfl⟩ | ⟨rfl, rfl⟩⟩ := hrel
    · obtain ⟨c0, c1⟩ := HQ.out.two
      go_wp2
      go_roundw
      case rel => exact ⟨trivial, .inr (.inl ⟨by go_num, rfl⟩)⟩
      case measure => simp [intOf]
    · obtain ⟨c0, c1⟩ := HQ.out.two
      go_wp2
      go_roundw
      case rel => exact ⟨trivial, .inr (.inr ⟨rfl, rfl⟩)⟩
      case measure => simp [intOf]
    · go_wp2_with fail
      refine (grow_is s _ (by have := hs'.out; omega)).mono ?_
      rintro e w1 ⟨u, rfl, hown, hb⟩
      have hown1 := Lib.hid hown
      clear hown
      obtain ⟨w0, rfl⟩ : ∃ w0, w0 = wr := ⟨_, rfl⟩
      go_wp2_with fail
      go_loopw [6, 27] (fun uv iv wr => Below w0.heap.size w0 wr ∧ ((iv = .int .i64 0 ∧ wr.ownsRow w0.heap.size 136 2 uv 0 []) ∨ (iv = .int .i64 1 ∧ wr.ownsRow w0.heap.size 136 2 uv n (flatP ps)) ∨ (iv = .int .i64 2 ∧ wr.ownsRow w0.heap.size 136 2 uv s (flatP (ps ++ ps'))))) (fun _ i _ => 2 - (intOf i).toNat)
      case atStart => exact ⟨hb, .inl ⟨rfl, hown1.out⟩⟩
      case round =>
        obtain ⟨hbel, ⟨rfl, hown⟩ | ⟨rfl, hown⟩ | ⟨rfl, hown⟩⟩ := hrel
        · have hc := (HQ.out.later hbel HQ.out.lt |>.two)
          rcases HS.out with ⟨hv, hps⟩ | ⟨b, o, m, c, hv, hp⟩
          · injection hv with e1 e2 e3
            subst e1 e2 e3
            have hps := Lib.hid hps
            rename_i q1
            clear q1
            go_wp2_with (at_builtin; refine wpList_append_own_none rfl _ _ _ rfl w0.heap.size 136 i0 2 Tryz.underlying40 hi0 u6 0 [] rfl hown rfl ?_)
            go_roundw
            case rel => exact ⟨hbel, .inr (.inl ⟨rfl, by rw [hps.out]; exact hown⟩)⟩
            case measure => simp [intOf]
          · injection hv with e1 e2 e3
            subst e1 e2 e3
            have hp := Lib.hid (hp.later hbel)
            rename_i q1
            clear q1
            have hbs := hbel.size
            have hoL := Lib.hid hown
            go_wp2_with (at_builtin; refine wpList_append_own _ rfl _ _ _ rfl w0.heap.size 136 i0 _ 2 16 Tryz.underlying40 hi0 hz0 hz1 hz2 rfl (by omega) u6 0 [] rfl hown ⟨b, o, none⟩ n cap (flatP ps) rfl (by rw [flatP_len, hpn.out]) (pairs_news hp.out) (flatP_one ps) (by unfold maxLen; omega) (by omega) hbs ?_; intro u1 w2 hown2 hgrow2 _)
            have E2 := hbel.grown hgrow2 hbs (fun k hk => (hoL.out.lt k hk).1)
            have hown3 := Lib.hid hown2
            clear hown2
            go_roundw
            case rel => exact ⟨E2, .inr (.inl ⟨rfl, by simpa using hown3.out⟩)⟩
            case measure => simp [intOf]
        · have hc := (HQ.out.later hbel HQ.out.lt |>.two)
          rcases HS'.out with ⟨hv, hps⟩ | ⟨b, o, m, c, hv, hp⟩
          · injection hv with e1 e2 e3
            subst e1 e2 e3
            have hps := Lib.hid hps
            rename_i q1
            clear q1
            go_wp2_with (at_builtin; refine wpList_append_own_none rfl _ _ _ rfl w0.heap.size 136 i0 2 Tryz.underlying40 hi0 u6 n (flatP ps) rfl hown rfl ?_)
            go_roundw
            case rel => exact ⟨hbel, .inr (.inr ⟨rfl, by rw [hps.out, List.append_nil, ← hs'.out]; exact hown⟩)⟩
            case measure => simp [intOf]
          · injection hv with e1 e2 e3
            subst e1 e2 e3
            have hp := Lib.hid (hp.later hbel)
            rename_i q1
            clear q1
            have hbs := hbel.size
            have hoL := Lib.hid hown
            go_wp2_with (at_builtin; refine wpList_append_own _ rfl _ _ _ rfl w0.heap.size 136 i0 _ 2 16 Tryz.underlying40 hi0 hz0 hz1 hz2 rfl (by omega) u6 n (flatP ps) rfl hown ⟨b, o, none⟩ n' cap' (flatP ps') rfl (by rw [flatP_len, hpn'.out]) (pairs_news hp.out) (flatP_one ps') (by unfold maxLen; omega) (by omega) hbs ?_; intro u1 w2 hown2 hgrow2 _)
            have E2 := hbel.grown hgrow2 hbs (fun k hk => (hoL.out.lt k hk).1)
            have hown3 := Lib.hid hown2
            clear hown2
            go_roundw
            case rel => exact ⟨E2, .inr (.inr ⟨rfl, by rw [flatP_app, ← hs'.out]; exact hown3.out⟩)⟩
            case measure => simp [intOf]
        · have hown2 := Lib.hid hown
          clear hown
          go_wp2
          go_ret
          exact ⟨_, rfl, by rw [hs'.out]; exact hown2.out, hbel⟩

end Go.Proofs.YtjdepjpjjgkmbaaGreat

/- JoinSeals: what it answers is what its model puts together, in memory of its own; up to some four million seals. -/
namespace Go.Proofs.YtjdepjpjjgkmbaaGreat
open Go.RowKit

set_option maxRecDepth 100000 in
theorem insSort_nil (w : World) : Calls Tryz.prog 257 #[.slice none 0 0, .int .i64 0, .int .i64 0, (.func (Fn.func 250) #[] #[])] w fun e w' => e = .returned (.tuple #[]) ∧ w = w' := by
  go_enter Tryz.func257, Tryz.ntmps257
  go_wp2_with fail
  go_loopw [8] (fun i wr => i = .int .i64 1 ∧ w = wr) (fun i _ => 0)
  case atStart => exact ⟨rfl, rfl⟩
  case round =>
    obtain ⟨rfl, rfl⟩ := hrel
    go_wp2
    go_end0
    exact ⟨rfl, rfl⟩
set_option maxRecDepth 100000 in
theorem stable_nil (w : World) : Calls Tryz.prog 256 #[.slice none 0 0, .int .i64 0, (.func (Fn.func 250) #[] #[])] w fun e w' => e = .returned (.tuple #[]) ∧ w = w' := by
  go_enter Tryz.func256, Tryz.ntmps256
  go_wp2_with fail
  go_loopw [7, 8] (fun a b wr => a = .int .i64 0 ∧ b = .int .i64 20 ∧ w = wr) (fun _ _ _ => 0)
  case atStart => exact ⟨rfl, rfl, rfl⟩
  case round =>
    obtain ⟨rfl, rfl, rfl⟩ := hrel
    go_wp2_with fail
    refine (insSort_nil w).mono ?_
    rintro e w1 ⟨rfl, rfl⟩
    go_wp2_with fail
    go_loopw [6] (fun k wr => k = .int .i64 20 ∧ w = wr) (fun _ _ => 0)
    case atStart => exact ⟨rfl, rfl⟩
    case round =>
      obtain ⟨rfl, rfl⟩ := hrel
      go_wp2
      go_end0
      exact ⟨rfl, rfl⟩
theorem sortStable_nil (w : World) : Calls Tryz.prog 249 #[.slice none 0 0, (.func (Fn.func 250) #[] #[])] w fun e w' => e = .returned (.tuple #[]) ∧ w = w' := by
  go_enter Tryz.func249, Tryz.ntmps249
  go_wp2_with fail
  refine (stable_nil w).mono ?_
  rintro e w1 ⟨rfl, rfl⟩
  go_wp2
  go_end0
  exact ⟨rfl, rfl⟩
theorem compact_nil (w : World) : Calls Tryz.prog 251 #[.slice none 0 0, (.func (Fn.func 252) #[] #[])] w fun e w' => e = .returned (.slice none 0 0) ∧ w = w' := by
  go_enter Tryz.func251, Tryz.ntmps251
  go_wp2
  go_ret
  exact ⟨rfl, rfl⟩
theorem sortStable_is (g n cap : Nat) (L : List (Int × Int)) (w : World) (hn : n ≤ 4194304) (hl : L.length = n) (H : Held w g L) :
    Calls Tryz.prog 249 #[.slice (some ⟨g, 0, none⟩) n cap, (.func (Fn.func 250) #[] #[])] w (Stable w g L) := by
  go_enter Tryz.func249, Tryz.ntmps249
  go_wp2_with fail
  refine (stable_is g n cap L w hn hl H).mono ?_
  rintro e w1 ⟨S, h1, h2, h3, rfl, h4, h5⟩
  go_wp2
  go_end0
  exact ⟨S, h1, h2, h3, rfl, h4, h5⟩

theorem own_held {w : World} {base : Nat} {e : TypeId} {q cap : Nat} {ps : List (Int × Int)} (h : w.ownsRow base e 2 (.slice (some ⟨q, 0, none⟩) ps.length cap) ps.length (flatP ps)) : Held w q ps := by
  refine ⟨(h.lt q rfl).2, fun o => ?_, fun i hi => ?_, fun i hi => ?_⟩
  · rcases h.2 with ⟨h', _⟩ | ⟨g', cap', cur, h', _, hg, _⟩
    · simp at h'
    · simp only [Value.slice.injEq, Option.some.injEq, Addr.mk.injEq, and_true, true_and] at h'
      obtain ⟨rfl, rfl⟩ := h'
      simp [World.frozen?, hg]
  · rw [h.cellAt (i * 2) (by omega)]; exact (flatP_at hi).1
  · rw [h.cellAt (i * 2 + 1) (by omega)]; exact (flatP_at hi).2

/-- A list of pairs of the call's own: nil, or a new block from its beginning. -/
def Own (w : World) (v : Value) (ps : List (Int × Int)) (w' : World) : Prop :=
  ((v = .slice none 0 0 ∧ ps = []) ∨ ∃ g cap, w.heap.size ≤ g ∧ v = .slice (some ⟨g, 0, none⟩) ps.length cap ∧ ps.length ≤ cap ∧ cap ≤ maxLen ∧ Held w' g ps) ∧ Below w.heap.size w w'
theorem Own.slc {w w' : World} {v : Value} {ps : List (Int × Int)} (h : Own w v ps w') : Slc w' v ps := by
  rcases h.1 with h | ⟨g, cap, _, rfl, _, _, hh⟩
  · exact .inl h
  · exact .inr ⟨g, 0, _, cap, rfl, hh.pairs⟩
theorem Own.later {w w1 w' : World} {v : Value} {ps : List (Int × Int)} (h : Own w v ps w1) (hb : Below w1.heap.size w1 w') : Own w v ps w' := by
  refine ⟨?_, bel_trans h.2 hb⟩
  rcases h.1 with h | ⟨g, cap, hg, rfl, h1, h2, hh⟩
  · exact .inl h
  · exact .inr ⟨g, cap, hg, rfl, h1, h2, hh.later hb⟩

set_option maxRecDepth 100000 in
set_option maxHeartbeats 1000000 in
theorem join_is (v v' : Value) (ps ps' : List (Int × Int)) (w : World) (hn : ps.length + ps'.length ≤ 4194304) (h : Slc w v ps) (h' : Slc w v' ps') :
    Calls Tryz.prog 245 #[v, v'] w fun e w' => ∃ u, e = .returned u ∧ Own w u (puts (ps ++ ps')) w' := by
  have hb := bel_alloc w (.cells #[v, v'] 40)
  have Q := Box.new w 40 #[v, v']
  have H := Lib.hid (h.later hb)
  have H' := Lib.hid (h'.later hb)
  have hall : ∃ L, L = ps ++ ps' := ⟨_, rfl⟩
  obtain ⟨L, hL⟩ := hall
  rw [← hL]
  have hLl : ps.length + ps'.length = L.length := by rw [hL, List.length_append]
  have hL := Lib.hid hL
  have hLl := Lib.hid hLl
  obtain ⟨A, n, cap, rfl⟩ : ∃ A n cap, v = .slice A n cap := by
    rcases h with ⟨rfl, _⟩ | ⟨b, o, n, cap, rfl, _⟩ <;> exact ⟨_, _, _, rfl⟩
  obtain ⟨A', n', cap', rfl⟩ : ∃ A n cap, v' = .slice A n cap := by
    rcases h' with ⟨rfl, _⟩ | ⟨b, o, n, cap, rfl, _⟩ <;> exact ⟨_, _, _, rfl⟩
  rename_i q1 q2
  clear h h' q1 q2
  go_enter Tryz.func245, Tryz.ntmps245
  go_wp2_with fail
  generalize (w.alloc _ : World) = w0 at hb Q H H' ⊢
  refine (concat_is _ _ _ ps ps' w0 hn Q H.out H'.out).mono ?_
  rintro e w1 ⟨u, rfl, hown, hb1⟩
  rw [hLl.out, ← hL.out] at hown
  have E1 := bel_trans hb hb1
  have hw0 := hb.size
  rcases hown.2 with ⟨rfl, hz⟩ | ⟨g, cap, cur, rfl, hbg, hg, hnc, hcm, _, _⟩
  · have hLn : L = [] := List.length_eq_zero_iff.1 hz
    have hLn := Lib.hid hLn
    rename_i q1
    clear q1 hz hown Q
    go_wp2_with fail
    refine (sortStable_nil w1).mono ?_
    rintro e w2 ⟨rfl, rfl⟩
    go_wp2_with fail
    refine (compact_nil w1).mono ?_
    rintro e w2 ⟨rfl, rfl⟩
    go_wp2
    go_ret
    exact ⟨_, rfl, .inl ⟨rfl, by rw [hLn.out]; rfl⟩, E1⟩
  · have hh := own_held hown
    have hcm := Lib.hid hcm
    have hn' : L.length ≤ 4194304 := by rw [← hLl.out]; exact hn
    have hgg : w.heap.size ≤ g := Nat.le_trans hw0 hbg
    rename_i q1
    clear q1 hg hown Q
    go_wp2_with fail
    refine (sortStable_is g L.length cap L w1 hn' rfl hh).mono ?_
    rintro e w2 ⟨S, hs1, hs2, hs3, rfl, hh2, hg2⟩
    have hs1 := Lib.hid hs1
    have hcp := Lib.hid (cmpct_puts hs2 hs3)
    have hle := cmpct_len_le S
    rename_i q1
    clear q1
    go_wp2_with fail
    refine (compact_is g L.length cap S w2 hn' hnc hcm.out hs1.out hh2).mono ?_
    rintro e w3 ⟨rfl, hh3, hg3⟩
    go_wp2
    go_ret
    refine ⟨_, rfl, .inr ⟨g, cap, hgg, ?_, ?_, hcm.out, ?_⟩, bel_grown (bel_grown E1 hg2 hgg) hg3 hgg⟩
    · rw [← hcp.out]; rfl
    · rw [← hcp.out]; have := hs1.out; omega
    · rw [← hcp.out]; exact hh3

end Go.Proofs.YtjdepjpjjgkmbaaGreat

/- Copies of lists in memory of their own (the library's Clone, Grow and Concat), and a shelf as a board and back: contracts of each of them. -/
namespace Go.Proofs.YtjdepjpjjgkmbaaGreat
open Go.RowKit

/-- A slice of opens: nil, or somewhere. -/
def SlcQ (w : World) (v : Value) (os : List Opn) : Prop :=
  (v = .slice none 0 0 ∧ os = []) ∨ ∃ b o n cap, v = .slice (some ⟨b, o, none⟩) n cap ∧ n ≤ cap ∧ cap ≤ maxLen ∧ Quads w w.heap.size (some ⟨b, o, none⟩) n os
theorem SlcQ.later {w w' : World} {v : Value} {os : List Opn} (h : SlcQ w v os) (hb : Below w.heap.size w w') : SlcQ w' v os := by
  rcases h with h | ⟨b, o, n, cap, rfl, h1, h2, hp⟩
  · exact .inl h
  · exact .inr ⟨b, o, n, cap, rfl, h1, h2, hp.later hb⟩
/-- A list of opens of the call's own: nil, or a new block from its beginning. -/
def OwnQ (w : World) (v : Value) (os : List Opn) (w' : World) : Prop :=
  ((v = .slice none 0 0 ∧ os = []) ∨ ∃ g cap, w.heap.size ≤ g ∧ v = .slice (some ⟨g, 0, none⟩) os.length cap ∧ os.length ≤ cap ∧ cap ≤ maxLen ∧ HeldQ w' g os) ∧ Below w.heap.size w w'
theorem OwnQ.later {w w1 w' : World} {v : Value} {os : List Opn} (h : OwnQ w v os w1) (hb : Below w1.heap.size w1 w') : OwnQ w v os w' := by
  refine ⟨?_, bel_trans h.2 hb⟩
  rcases h.1 with h | ⟨g, cap, hg, rfl, h1, h2, hh⟩
  · exact .inl h
  · exact .inr ⟨g, cap, hg, rfl, h1, h2, hh.later hb⟩
theorem OwnQ.slc {w w' : World} {v : Value} {os : List Opn} (h : OwnQ w v os w') : SlcQ w' v os := by
  rcases h.1 with h | ⟨g, cap, _, rfl, h1, h2, hh⟩
  · exact .inl h
  · exact .inr ⟨g, 0, _, cap, rfl, h1, h2, hh.quads⟩
theorem ownQ_of {w w' : World} {t : TypeId} {u : Value} {os : List Opn} (h : w'.ownsRow w.heap.size t 4 u os.length (flatO os)) (hb : Below w.heap.size w w') : OwnQ w u os w' := by
  refine ⟨?_, hb⟩
  have h0 := h
  rcases h.2 with ⟨rfl, hz⟩ | ⟨g, cap, cur, rfl, hbg, hg, hnc, hcm, _, _⟩
  · exact .inl ⟨rfl, List.length_eq_zero_iff.1 hz⟩
  · exact .inr ⟨g, cap, hbg, rfl, hnc, hcm, own_heldQ h0⟩
theorem own_of {w w' : World} {t : TypeId} {u : Value} {ps : List (Int × Int)} (h : w'.ownsRow w.heap.size t 2 u ps.length (flatP ps)) (hb : Below w.heap.size w w') : Own w u ps w' := by
  refine ⟨?_, hb⟩
  have h0 := h
  rcases h.2 with ⟨rfl, hz⟩ | ⟨g, cap, cur, rfl, hbg, hg, hnc, hcm, _, _⟩
  · exact .inl ⟨rfl, List.length_eq_zero_iff.1 hz⟩
  · exact .inr ⟨g, cap, hbg, rfl, hnc, hcm, own_held h0⟩
theorem own_new (w : World) (t : TypeId) (z : Nat) : (w.alloc (.cells #[] t)).ownsRow w.heap.size t z (.slice (some ⟨w.heap.size, 0, none⟩) 0 0) 0 [] :=
  ⟨by simp, .inr ⟨w.heap.size, 0, #[], rfl, Nat.le_refl _, Box.new w t #[], Nat.le_refl _, Nat.zero_le _, by simp, by simp⟩⟩

set_option maxRecDepth 100000 in
set_option maxHeartbeats 1000000 in
theorem cloneSeals_is (v : Value) (ps : List (Int × Int)) (w : World) (hn : ps.length ≤ 4194304) (h : Slc w v ps) :
    Calls Tryz.prog 129 #[v] w fun e w' => ∃ u, e = .returned u ∧ Own w u ps w' := by
  obtain ⟨i0, hi0, hz0, hz1, hz2⟩ := info_parts Tryz.infoSealI
  have qT : ∀ (w : World) (a : Option Addr) (n c n' c' : Nat), (binOp .eql 40 (.slice a n c) (.slice none n' c')).run Tryz.prog w = .ok (.bool a.isNone) w := fun w a n c n' c' => Lib.run_eql_slice_nil w _ _ a n c n' c' Tryz.underlying40
  rcases h with ⟨rfl, rfl⟩ | ⟨b, o, n, cap, rfl, hp⟩
  · go_enter Tryz.func129, Tryz.ntmps129
    go_wp2
    go_ret
    exact ⟨_, rfl, .inl ⟨rfl, rfl⟩, Below.refl _ _⟩
  · have hl := Lib.hid hp.1
    have hb0 := bel_alloc w (.cells #[] 136)
    have HP := Lib.hid (hp.later hb0)
    have hn' : n ≤ 4194304 := by rw [← hp.1]; exact hn
    have hown := own_new w 136 2
    have HO := Lib.hid hown
    have hbs := hb0.size
    clear hp
    go_enter Tryz.func129, Tryz.ntmps129
    go_wp2_with (at_builtin; refine wpList_append_own _ rfl _ _ _ rfl w.heap.size 136 i0 _ 2 16 Tryz.underlying40 hi0 hz0 hz1 hz2 rfl (by omega) (.slice (some ⟨w.heap.size, 0, none⟩) 0 0) 0 [] rfl hown ⟨b, o, none⟩ n cap (flatP ps) rfl (by rw [flatP_len, hl.out]) (pairs_news HP.out) (flatP_one ps) (by unfold maxLen; omega) (by omega) hbs ?_; intro u1 w2 hown2 hgrow2 _; have E2 := hb0.grown hgrow2 hbs (fun k hk => (HO.out.lt k hk).1); have HOW := Lib.hid hown2; clear hown2)
    go_ret
    refine ⟨_, rfl, own_of (t := 136) ?_ E2⟩
    have := HOW.out
    rw [Nat.zero_add, List.nil_append] at this
    rw [hl.out]
    exact this

set_option maxRecDepth 100000 in
set_option maxHeartbeats 1000000 in
theorem cloneOpens_is (v : Value) (ps : List Opn) (w : World) (hn : ps.length ≤ 4194304) (h : SlcQ w v ps) :
    Calls Tryz.prog 202 #[v] w fun e w' => ∃ u, e = .returned u ∧ OwnQ w u ps w' := by
  obtain ⟨i0, hi0, hz0, hz1, hz2⟩ := info_parts Tryz.infoOpen
  have qT : ∀ (w : World) (a : Option Addr) (n c n' c' : Nat), (binOp .eql 78 (.slice a n c) (.slice none n' c')).run Tryz.prog w = .ok (.bool a.isNone) w := fun w a n c n' c' => Lib.run_eql_slice_nil w _ _ a n c n' c' Tryz.underlying78
  rcases h with ⟨rfl, rfl⟩ | ⟨b, o, n, cap, rfl, _, _, hp⟩
  · go_enter Tryz.func202, Tryz.ntmps202
    go_wp2
    go_ret
    exact ⟨_, rfl, .inl ⟨rfl, rfl⟩, Below.refl _ _⟩
  · have hl := Lib.hid hp.1
    have hb0 := bel_alloc w (.cells #[] 97)
    have HP := Lib.hid (hp.later hb0)
    have hn' : n ≤ 4194304 := by rw [← hp.1]; exact hn
    have hown := own_new w 97 4
    have HO := Lib.hid hown
    have hbs := hb0.size
    clear hp
    go_enter Tryz.func202, Tryz.ntmps202
    go_wp2_with (at_builtin; refine wpList_append_own _ rfl _ _ _ rfl w.heap.size 97 i0 _ 4 32 Tryz.underlying78 hi0 hz0 hz1 hz2 rfl (by omega) (.slice (some ⟨w.heap.size, 0, none⟩) 0 0) 0 [] rfl hown ⟨b, o, none⟩ n cap (flatO ps) rfl (by rw [flatO_len, hl.out]) (quads_news HP.out) (flatO_one ps) (by unfold maxLen; omega) (by omega) hbs ?_; intro u1 w2 hown2 hgrow2 _; have E2 := hb0.grown hgrow2 hbs (fun k hk => (HO.out.lt k hk).1); have HOW := Lib.hid hown2; clear hown2)
    go_ret
    refine ⟨_, rfl, ownQ_of (t := 97) ?_ E2⟩
    have := HOW.out
    rw [Nat.zero_add, List.nil_append] at this
    rw [hl.out]
    exact this

set_option maxRecDepth 100000 in
set_option maxHeartbeats 1000000 in
/-- Room for n opens, none of them there yet. -/
theorem growOpens_is (n : Nat) (w : World) (hn : n ≤ 4194304) :
    Calls Tryz.prog 203 #[.slice none 0 0, .int .i64 n] w fun e w' => ∃ v, e = .returned v ∧ w'.ownsRow w.heap.size 97 4 v 0 [] ∧ Below w.heap.size w w' := by
  obtain ⟨i0, hi0, hz0, hz1, hz2⟩ := info_parts Tryz.infoOpen
  rcases Nat.eq_zero_or_pos n with rfl | hpos
  · go_enter Tryz.func203, Tryz.ntmps203
    go_wp2
    go_ret
    exact ⟨_, rfl, World.ownsRow_nil w _ _ _, Below.refl _ _⟩
  · have hrz : ∀ ty, (Builtin.append_ #[78, 3] ty #[.slice none 0 0, .int .i64 (n : Int)]).run Tryz.prog w =
        .ok (.slice (some ⟨w.heap.size, 0, none⟩) n (grownCap w n 0 97)) (w.drew.alloc (.cells (#[] ++ Builtin.zeroCells (Value.agg #[.int .i64 0, .int .i64 0, .int .i64 0, .int .i64 0]).cells n ++ Builtin.zeroCells (Value.agg #[.int .i64 0, .int .i64 0, .int .i64 0, .int .i64 0]).cells (grownCap w n 0 97 - n)) 97)) := fun ty => by
      have h := Lib.run_append_grow_zeros w 78 3 ty 97 i0 _ .i64 .i64 Tryz.underlying78 Tryz.underlying3 hi0 hz0 none 0 0 [] (run_firstCells_none w.drew i0.size 0 0 0) n (by omega) (by omega) (by omega) (by omega)
        (by rw [hz2]; omega) (by rw [Nat.zero_add]; exact growslice_fits hpos (by rw [hz2]; omega))
      simpa using h
    have hGn := grownCap_ge w n 0 97
    have hGm := grownCap_le_maxLen w n 0 97 (by unfold maxLen; omega)
    generalize grownCap w n 0 97 = G at hrz hGn hGm
    have hG := Lib.hid hGm
    unfold maxLen at hGm
    have hp : (0 : Int) < (n : Int) := by omega
    go_enter Tryz.func203, Tryz.ntmps203
    go_wp2_with (at_builtin; refine Lib.wpList_append_run _ rfl _ _ _ _ rfl _ _ rfl rfl _ _ (hrz _) ?_)
    go_ret
    refine ⟨_, rfl, ?_, ((Below.refl _ _).drew).alloc (Nat.le_refl _) _⟩
    exact World.ownsRow_made w.drew _ G (Nat.le_refl _) hG.out (by simp [size_zeroCells]; show n * 4 + (G - n) * 4 = G * 4; omega)

theorem SlcQ.form {w : World} {v : Value} {os : List Opn} (h : SlcQ w v os) : ∃ (A : Option Addr) (n cap : Nat), v = .slice A n cap ∧ os.length = n := by
  rcases h with ⟨rfl, rfl⟩ | ⟨b, o, n, cap, rfl, _, _, hp⟩
  · exact ⟨_, _, _, rfl, rfl⟩
  · exact ⟨_, _, _, rfl, hp.1⟩

set_option maxRecDepth 100000 in
set_option maxHeartbeats 4000000 in
theorem concatOpens_is (q : Nat) (v0 v1 v2 : Value) (o0 o1 o2 : List Opn) (w : World) (hn : o0.length + o1.length + o2.length ≤ 4194304) (Q : Box w q 78 #[v0, v1, v2]) (h0 : SlcQ w v0 o0) (h1 : SlcQ w v1 o1) (h2 : SlcQ w v2 o2) :
    Calls Tryz.prog 158 #[.slice (some ⟨q, 0, none⟩) 3 3] w fun e w' => ∃ u, e = .returned u ∧ OwnQ w u (o0 ++ o1 ++ o2) w' := by
  obtain ⟨i0, hi0, hz0, hz1, hz2⟩ := info_parts Tryz.infoOpen
  have hq := Q.lt
  obtain ⟨A0, n0, c0, hv0, hp0⟩ := h0.form
  obtain ⟨A1, n1, c1, hv1, hp1⟩ := h1.form
  obtain ⟨A2, n2, c2, hv2, hp2⟩ := h2.form
  subst hv0 hv1 hv2
  rw [hp0, hp1, hp2] at hn
  have HQ := Lib.hid Q
  have HS0 := Lib.hid h0
  have HS1 := Lib.hid h1
  have HS2 := Lib.hid h2
  replace hp0 := Lib.hid hp0
  replace hp1 := Lib.hid hp1
  replace hp2 := Lib.hid hp2
  clear Q h0 h1 h2
  obtain ⟨s, hs, hs'⟩ : ∃ s : Nat, (n0 : Int) + (n1 : Int) = (s : Int) ∧ n0 + n1 = s := ⟨n0 + n1, by omega, rfl⟩
  obtain ⟨t, ht, ht'⟩ : ∃ t : Nat, (s : Int) + (n2 : Int) = (t : Int) ∧ s + n2 = t := ⟨s + n2, by omega, rfl⟩
  have hsn : s + n2 ≤ 4194304 := by omega
  replace hs' := Lib.hid hs'
  replace ht' := Lib.hid ht'
  go_enter Tryz.func158, Tryz.ntmps158
  go_wp2_with fail
  go_loopw [3, 11] (fun sv iv wr => wr = w ∧ ((sv = .int .i64 0 ∧ iv = .int .i64 0) ∨ (sv = .int .i64 n0 ∧ iv = .int .i64 1) ∨ (sv = .int .i64 s ∧ iv = .int .i64 2) ∨ (sv = .int .i64 t ∧ iv = .int .i64 3))) (fun _ i _ => 3 - (intOf i).toNat)
  case atStart => exact ⟨rfl, .inl ⟨rfl, rfl⟩⟩
  case round =>
    obtain ⟨rfl, ⟨rfl, rfl⟩ | ⟨rfl, rfl⟩ | ⟨rfl, rfl⟩ | ⟨rfl, rfl⟩⟩ := hrel
    · obtain ⟨d0, d1, d2⟩ := HQ.out.three
      go_wp2
      go_roundw
      case rel => exact ⟨trivial, .inr (.inl ⟨by go_num, rfl⟩)⟩
      case measure => simp [intOf]
    · obtain ⟨d0, d1, d2⟩ := HQ.out.three
      go_wp2
      go_roundw
      case rel => exact ⟨trivial, .inr (.inr (.inl ⟨rfl, rfl⟩))⟩
      case measure => simp [intOf]
    · obtain ⟨d0, d1, d2⟩ := HQ.out.three
      go_wp2
      go_roundw
      case rel => exact ⟨trivial, .inr (.inr (.inr ⟨rfl, rfl⟩))⟩
      case measure => simp [intOf]
    · go_wp2_with fail
      refine (growOpens_is t _ (by have := ht'.out; omega)).mono ?_
      rintro e w1 ⟨u, rfl, hown, hb⟩
      have hown1 := Lib.hid hown
      clear hown
      obtain ⟨w0, rfl⟩ : ∃ w0, w0 = wr := ⟨_, rfl⟩
      go_wp2_with fail
      go_loopw [6, 27] (fun uv iv wr => Below w0.heap.size w0 wr ∧ ((iv = .int .i64 0 ∧ wr.ownsRow w0.heap.size 97 4 uv 0 []) ∨ (iv = .int .i64 1 ∧ wr.ownsRow w0.heap.size 97 4 uv n0 (flatO o0)) ∨ (iv = .int .i64 2 ∧ wr.ownsRow w0.heap.size 97 4 uv s (flatO (o0 ++ o1))) ∨ (iv = .int .i64 3 ∧ wr.ownsRow w0.heap.size 97 4 uv t (flatO (o0 ++ o1 ++ o2))))) (fun _ i _ => 3 - (intOf i).toNat)
      case atStart => exact ⟨hb, .inl ⟨rfl, hown1.out⟩⟩
      case round =>
        obtain ⟨hbel, ⟨rfl, hown⟩ | ⟨rfl, hown⟩ | ⟨rfl, hown⟩ | ⟨rfl, hown⟩⟩ := hrel
        · have hc := (HQ.out.later hbel HQ.out.lt |>.three)
          rcases HS0.out with ⟨hv, hps⟩ | ⟨b, o, m, cc, hv, hcl, hcm, hp⟩
          · injection hv with e1 e2 e3
            subst e1 e2 e3
            replace hps := Lib.hid hps
            go_wp2_with (at_builtin; refine wpList_append_own_none rfl _ _ _ rfl w0.heap.size 97 i0 4 Tryz.underlying78 hi0 u6 0 ([]) rfl hown rfl ?_)
            go_roundw
            case rel => exact ⟨hbel, .inr (.inl ⟨rfl, by rw [hps.out]; exact hown⟩)⟩
            case measure => simp [intOf]
          · injection hv with e1 e2 e3
            subst e1 e2 e3
            replace hp := Lib.hid (hp.later hbel)
            replace hcm := Lib.hid hcm
            have hbs := hbel.size
            have hoL := Lib.hid hown
            go_wp2_with (at_builtin; refine wpList_append_own _ rfl _ _ _ rfl w0.heap.size 97 i0 _ 4 32 Tryz.underlying78 hi0 hz0 hz1 hz2 rfl (by omega) u6 0 ([]) rfl hown ⟨b, o, none⟩ n0 c0 (flatO o0) rfl (by rw [flatO_len, hp0.out]) (quads_news hp.out) (flatO_one o0) (by unfold maxLen; omega) (by omega) hbs ?_; intro u1 w2 hown2 hgrow2 _)
            have E2 := hbel.grown hgrow2 hbs (fun k hk => (hoL.out.lt k hk).1)
            have hown3 := Lib.hid hown2
            clear hown2
            go_roundw
            case rel => exact ⟨E2, .inr (.inl ⟨rfl, by simpa using hown3.out⟩)⟩
            case measure => simp [intOf]
        · have hc := (HQ.out.later hbel HQ.out.lt |>.three)
          rcases HS1.out with ⟨hv, hps⟩ | ⟨b, o, m, cc, hv, hcl, hcm, hp⟩
          · injection hv with e1 e2 e3
            subst e1 e2 e3
            replace hps := Lib.hid hps
            go_wp2_with (at_builtin; refine wpList_append_own_none rfl _ _ _ rfl w0.heap.size 97 i0 4 Tryz.underlying78 hi0 u6 n0 (flatO o0) rfl hown rfl ?_)
            go_roundw
            case rel => exact ⟨hbel, .inr (.inr (.inl ⟨rfl, by rw [hps.out, List.append_nil, ← hs'.out]; exact hown⟩))⟩
            case measure => simp [intOf]
          · injection hv with e1 e2 e3
            subst e1 e2 e3
            replace hp := Lib.hid (hp.later hbel)
            replace hcm := Lib.hid hcm
            have hbs := hbel.size
            have hoL := Lib.hid hown
            go_wp2_with (at_builtin; refine wpList_append_own _ rfl _ _ _ rfl w0.heap.size 97 i0 _ 4 32 Tryz.underlying78 hi0 hz0 hz1 hz2 rfl (by omega) u6 n0 (flatO o0) rfl hown ⟨b, o, none⟩ n1 c1 (flatO o1) rfl (by rw [flatO_len, hp1.out]) (quads_news hp.out) (flatO_one o1) (by unfold maxLen; omega) (by omega) hbs ?_; intro u1 w2 hown2 hgrow2 _)
            have E2 := hbel.grown hgrow2 hbs (fun k hk => (hoL.out.lt k hk).1)
            have hown3 := Lib.hid hown2
            clear hown2
            go_roundw
            case rel => exact ⟨E2, .inr (.inr (.inl ⟨rfl, by rw [flatO_app, ← hs'.out]; exact hown3.out⟩))⟩
            case measure => simp [intOf]
        · have hc := (HQ.out.later hbel HQ.out.lt |>.three)
          rcases HS2.out with ⟨hv, hps⟩ | ⟨b, o, m, cc, hv, hcl, hcm, hp⟩
          · injection hv with e1 e2 e3
            subst e1 e2 e3
            replace hps := Lib.hid hps
            go_wp2_with (at_builtin; refine wpList_append_own_none rfl _ _ _ rfl w0.heap.size 97 i0 4 Tryz.underlying78 hi0 u6 s (flatO (o0 ++ o1)) rfl hown rfl ?_)
            go_roundw
            case rel => exact ⟨hbel, .inr (.inr (.inr ⟨rfl, by rw [hps.out, List.append_nil, ← ht'.out]; exact hown⟩))⟩
            case measure => simp [intOf]
          · injection hv with e1 e2 e3
            subst e1 e2 e3
            replace hp := Lib.hid (hp.later hbel)
            replace hcm := Lib.hid hcm
            have hbs := hbel.size
            have hoL := Lib.hid hown
            go_wp2_with (at_builtin; refine wpList_append_own _ rfl _ _ _ rfl w0.heap.size 97 i0 _ 4 32 Tryz.underlying78 hi0 hz0 hz1 hz2 rfl (by omega) u6 s (flatO (o0 ++ o1)) rfl hown ⟨b, o, none⟩ n2 c2 (flatO o2) rfl (by rw [flatO_len, hp2.out]) (quads_news hp.out) (flatO_one o2) (by unfold maxLen; omega) (by omega) hbs ?_; intro u1 w2 hown2 hgrow2 _)
            have E2 := hbel.grown hgrow2 hbs (fun k hk => (hoL.out.lt k hk).1)
            have hown3 := Lib.hid hown2
            clear hown2
            go_roundw
            case rel => exact ⟨E2, .inr (.inr (.inr ⟨rfl, by rw [flatO_app (o0 ++ o1), ← ht'.out]; exact hown3.out⟩))⟩
            case measure => simp [intOf]
        · have hown2 := Lib.hid hown
          clear hown
          go_wp2
          go_ret
          refine ⟨_, rfl, ownQ_of (t := 97) ?_ hbel⟩
          have e : (o0 ++ o1 ++ o2).length = t := by rw [List.length_append, List.length_append, hp0.out, hp1.out, hp2.out, hs'.out, ht'.out]
          rw [e]
          exact hown2.out

end Go.Proofs.YtjdepjpjjgkmbaaGreat

/- A shelf as a board and back, an open put to its place: contracts of the program's functions. -/
namespace Go.Proofs.YtjdepjpjjgkmbaaGreat
open Go.RowKit

/-- A list of seals in a block of its own from lo to hi, or nil. -/
def ResP (wr : World) (lo hi : Nat) (u : Value) (D : List (Int × Int)) : Prop :=
  (u = .slice none 0 0 ∧ D = []) ∨ ∃ g cap, lo ≤ g ∧ g < hi ∧ u = .slice (some ⟨g, 0, none⟩) D.length cap ∧ D.length ≤ cap ∧ cap ≤ maxLen ∧ Held wr g D
/-- A list of opens in a block of its own from lo on, or nil. -/
def ResO (wr : World) (lo : Nat) (v : Value) (D : List Opn) : Prop :=
  (v = .slice none 0 0 ∧ D = []) ∨ ∃ g cap, lo ≤ g ∧ v = .slice (some ⟨g, 0, none⟩) D.length cap ∧ D.length ≤ cap ∧ cap ≤ maxLen ∧ HeldQ wr g D
theorem ResP.later {wr w' : World} {lo hi : Nat} {u : Value} {D : List (Int × Int)} (h : ResP wr lo hi u D) (hb : Below wr.heap.size wr w') : ResP w' lo hi u D := by
  rcases h with h | ⟨g, cap, h1, h2, h3, h4, h5, h6⟩
  · exact .inl h
  · exact .inr ⟨g, cap, h1, h2, h3, h4, h5, h6.later hb⟩
theorem ResO.later {wr w' : World} {lo : Nat} {v : Value} {D : List Opn} (h : ResO wr lo v D) (hb : Below wr.heap.size wr w') : ResO w' lo v D := by
  rcases h with h | ⟨g, cap, h1, h3, h4, h5, h6⟩
  · exact .inl h
  · exact .inr ⟨g, cap, h1, h3, h4, h5, h6.later hb⟩
theorem ResP.far {w : World} {lo hi : Nat} {u : Value} {D : List (Int × Int)} (h : ResP w lo hi u D) {b : Nat} (hb : b < lo) (o : Nat) (x : Value) : ResP (w.setCell ⟨b, o, none⟩ x) lo hi u D := by
  rcases h with h | ⟨g, cap, h1, h2, h3, h4, h5, h6⟩
  · exact .inl h
  · exact .inr ⟨g, cap, h1, h2, h3, h4, h5, HeldK.far h6 (by omega) o x⟩
theorem ResO.far {w : World} {lo : Nat} {v : Value} {D : List Opn} (h : ResO w lo v D) {b : Nat} (hb : b < lo) (o : Nat) (x : Value) : ResO (w.setCell ⟨b, o, none⟩ x) lo v D := by
  rcases h with h | ⟨g, cap, h1, h3, h4, h5, h6⟩
  · exact .inl h
  · exact .inr ⟨g, cap, h1, h3, h4, h5, h6.far (by omega) o x⟩
theorem ResP.form {wr : World} {lo hi : Nat} {u : Value} {D : List (Int × Int)} (h : ResP wr lo hi u D) : ∃ (A : Option Addr) (cap : Nat), u = .slice A D.length cap ∧ D.length ≤ cap ∧ cap ≤ maxLen ∧ Pairs wr wr.heap.size A D.length D ∧ Slc wr u D := by
  rcases h with ⟨rfl, rfl⟩ | ⟨g, cap, h1, h2, rfl, h4, h5, h6⟩
  · exact ⟨none, 0, rfl, Nat.le_refl _, Nat.zero_le _, ⟨rfl, fun h => absurd h (by simp)⟩, .inl ⟨rfl, rfl⟩⟩
  · exact ⟨_, cap, rfl, h4, h5, h6.pairs, .inr ⟨g, 0, _, cap, rfl, h6.pairs⟩⟩
theorem ResO.form {wr : World} {lo : Nat} {v : Value} {D : List Opn} (h : ResO wr lo v D) : ∃ (A : Option Addr) (cap : Nat), v = .slice A D.length cap ∧ D.length ≤ cap ∧ cap ≤ maxLen ∧ Quads wr wr.heap.size A D.length D ∧ SlcQ wr v D := by
  rcases h with ⟨rfl, rfl⟩ | ⟨g, cap, h1, rfl, h4, h5, h6⟩
  · exact ⟨none, 0, rfl, Nat.le_refl _, Nat.zero_le _, quads_nil _ _ _, .inl ⟨rfl, rfl⟩⟩
  · exact ⟨_, cap, rfl, h4, h5, h6.quads, .inr ⟨g, 0, _, cap, rfl, h4, h5, h6.quads⟩⟩
theorem Own.res {w w' : World} {u : Value} {ps : List (Int × Int)} {lo : Nat} (h : Own w u ps w') (hl : lo ≤ w.heap.size) : ResP w' lo w'.heap.size u ps := by
  rcases h.1 with h | ⟨g, cap, h1, rfl, h3, h4, hh⟩
  · exact .inl h
  · exact .inr ⟨g, cap, by omega, hh.lt, rfl, h3, h4, hh⟩
theorem OwnQ.res {w w' : World} {v : Value} {os : List Opn} {lo : Nat} (h : OwnQ w v os w') (hl : lo ≤ w.heap.size) : ResO w' lo v os := by
  rcases h.1 with h | ⟨g, cap, h1, rfl, h3, h4, hh⟩
  · exact .inl h
  · exact .inr ⟨g, cap, by omega, rfl, h3, h4, hh⟩
theorem ResP.slc {wr : World} {lo hi : Nat} {u : Value} {D : List (Int × Int)} (h : ResP wr lo hi u D) : Slc wr u D := by
  obtain ⟨_, _, _, _, _, _, hs⟩ := h.form
  exact hs
theorem ResO.slc {wr : World} {lo : Nat} {v : Value} {D : List Opn} (h : ResO wr lo v D) : SlcQ wr v D := by
  obtain ⟨_, _, _, _, _, _, hs⟩ := h.form
  exact hs

theorem ResP.wide {wr : World} {lo lo' hi hi' : Nat} {u : Value} {D : List (Int × Int)} (h : ResP wr lo hi u D) (h1 : lo' ≤ lo) (h2 : hi ≤ hi') : ResP wr lo' hi' u D := by
  rcases h with h | ⟨g, cap, a, b, c⟩
  · exact .inl h
  · exact .inr ⟨g, cap, by omega, by omega, c⟩
theorem ResO.wide {wr : World} {lo lo' : Nat} {v : Value} {D : List Opn} (h : ResO wr lo v D) (h1 : lo' ≤ lo) : ResO wr lo' v D := by
  rcases h with h | ⟨g, cap, a, c⟩
  · exact .inl h
  · exact .inr ⟨g, cap, by omega, c⟩
theorem ResP.far5 {w : World} {lo hi : Nat} {u : Value} {D : List (Int × Int)} (h : ResP w lo hi u D) {b : Nat} (hb : b < lo) (x0 x1 x2 x3 x4 : Value) : ResP (((((w.setCell ⟨b, 0, none⟩ x0).setCell ⟨b, 1, none⟩ x1).setCell ⟨b, 2, none⟩ x2).setCell ⟨b, 3, none⟩ x3).setCell ⟨b, 4, none⟩ x4) lo hi u D :=
  ((((h.far hb 0 x0).far hb 1 x1).far hb 2 x2).far hb 3 x3).far hb 4 x4
theorem ResO.far5 {w : World} {lo : Nat} {u : Value} {D : List Opn} (h : ResO w lo u D) {b : Nat} (hb : b < lo) (x0 x1 x2 x3 x4 : Value) : ResO (((((w.setCell ⟨b, 0, none⟩ x0).setCell ⟨b, 1, none⟩ x1).setCell ⟨b, 2, none⟩ x2).setCell ⟨b, 3, none⟩ x3).setCell ⟨b, 4, none⟩ x4) lo u D :=
  ((((h.far hb 0 x0).far hb 1 x1).far hb 2 x2).far hb 3 x3).far hb 4 x4
theorem bel_five {w0 w : World} {b : Nat} (h : Below w0.heap.size w0 w) (hb : w0.heap.size ≤ b) (x0 x1 x2 x3 x4 : Value) : Below w0.heap.size w0 (((((w.setCell ⟨b, 0, none⟩ x0).setCell ⟨b, 1, none⟩ x1).setCell ⟨b, 2, none⟩ x2).setCell ⟨b, 3, none⟩ x3).setCell ⟨b, 4, none⟩ x4) :=
  ((((h.setCell hb x0).setCell hb x1).setCell hb x2).setCell hb x3).setCell hb x4
theorem slc_form {w : World} {v : Value} {ps : List (Int × Int)} (h : Slc w v ps) : ∃ (A : Option Addr) (n cap : Nat), v = .slice A n cap := by
  rcases h with ⟨rfl, _⟩ | ⟨b, o, n, cap, rfl, _⟩ <;> exact ⟨_, _, _, rfl⟩
theorem slcQ_form {w : World} {v : Value} {os : List Opn} (h : SlcQ w v os) : ∃ (A : Option Addr) (n cap : Nat), v = .slice A n cap := by
  rcases h with ⟨rfl, _⟩ | ⟨b, o, n, cap, rfl, _⟩ <;> exact ⟨_, _, _, rfl⟩
/-- A shelf that is answered: its lists lie in blocks of their own. -/
def RegR (w : World) (rt rq rv : Int) (ps : List (Int × Int)) (os : List Opn) (e : Ending) (w' : World) : Prop :=
  ∃ (B : Nat) (u v : Value), w.heap.size ≤ B ∧ B ≤ w'.heap.size ∧ e = .returned (.agg #[.int .i64 rt, .int .i64 rq, .int .i64 rv, u, v]) ∧ ResP w' w.heap.size B u ps ∧ ResO w' B v os ∧ Below w.heap.size w w'

theorem boardOf_is (rt rq rv : Int) (P : Option Addr) (p pc : Nat) (Q : Option Addr) (q qc : Nat) (w : World) :
    Calls Tryz.prog 156 #[.agg #[.int .i64 rt, .int .i64 rq, .int .i64 rv, .slice P p pc, .slice Q q qc]] w fun e w' => e = .returned (.agg #[.int .i64 rt, .int .i64 rq, .int .i64 rv, .slice P p pc, .slice Q q qc]) ∧ Below w.heap.size w w' := by
  go_enter Tryz.func156, Tryz.ntmps156
  go_wp2
  exact bodyPost_ret (v := .agg #[.int .i64 rt, .int .i64 rq, .int .i64 rv, .slice P p pc, .slice Q q qc]) (by simp [results, Tryz.results156, go_sem]) rfl ⟨rfl, by
    first
    | exact bel_trans (bel_alloc _ _) (bel_alloc _ _)
    | (repeat (first | (with_reducible exact bel_trans (bel_alloc _ _) (bel_alloc _ _)) | refine Below.setCell ?_ (by simp; try omega) _))⟩

set_option maxRecDepth 100000 in
set_option maxHeartbeats 2000000 in
theorem reg_is (rt rq rv : Int) (P : Option Addr) (p pc : Nat) (Q : Option Addr) (q qc : Nat) (ps : List (Int × Int)) (os : List Opn) (w : World) (hp : ps.length ≤ 4194304) (hq : os.length ≤ 4194304) (h1 : Slc w (.slice P p pc) ps) (h2 : SlcQ w (.slice Q q qc) os) :
    Calls Tryz.prog 157 #[.agg #[.int .i64 rt, .int .i64 rq, .int .i64 rv, .slice P p pc, .slice Q q qc]] w (RegR w rt rq rv ps os) := by
  have D := (Box.new w 201 #[.int .i64 rt, .int .i64 rq, .int .i64 rv, .slice P p pc, .slice Q q qc]).alloc (.cells #[.int .i64 0, .int .i64 0, .int .i64 0, .slice none 0 0, .slice none 0 0] 80)
  have X := Box.new (w.alloc (.cells #[.int .i64 rt, .int .i64 rq, .int .i64 rv, .slice P p pc, .slice Q q qc] 201)) 80 #[.int .i64 0, .int .i64 0, .int .i64 0, .slice none 0 0, .slice none 0 0]
  have hb0 := bel_trans (bel_alloc w (.cells #[.int .i64 rt, .int .i64 rq, .int .i64 rv, .slice P p pc, .slice Q q qc] 201)) (bel_alloc _ (.cells #[.int .i64 0, .int .i64 0, .int .i64 0, .slice none 0 0, .slice none 0 0] 80))
  simp only [World.size_alloc] at X
  have H1 := h1.later hb0
  have H2 := Lib.hid (h2.later hb0)
  clear h1 h2
  go_enter Tryz.func157, Tryz.ntmps157
  go_wp2_with fail
  generalize ((w.alloc _).alloc _ : World) = w0 at hb0 D X H1 H2 ⊢
  obtain ⟨d0, d1, d2, d3, d4⟩ := D.five
  have hXl := X.lt
  have hnn : w.heap.size + 1 ≠ w.heap.size := by omega
  go_region_held3 (fun w' => w'.cell? ⟨w.heap.size, 0, none⟩ = some (.int .i64 rt) ∧ w'.cell? ⟨w.heap.size, 1, none⟩ = some (.int .i64 rq) ∧ w'.cell? ⟨w.heap.size, 2, none⟩ = some (.int .i64 rv) ∧ w'.cell? ⟨w.heap.size, 3, none⟩ = some (.slice P p pc) ∧ w'.cell? ⟨w.heap.size, 4, none⟩ = some (.slice Q q qc))
    (first | (with_reducible exact K2) | (with_reducible exact K1) | go_keep)
    (first
      | (go_at_call 129; refine (cloneSeals_is _ ps _ hp ?_).mono ?_; exact H1; rintro e w1 ⟨u, rfl, hO1⟩; obtain ⟨A1, m1, c1, rfl⟩ := slc_form hO1.slc; have F1 := bel_drew' hO1.2; have K1 := (D.later F1 D.lt).five)
      | (go_at_call 202; refine (cloneOpens_is _ os _ hq (H2.out.later F1)).mono ?_; rintro e w2 ⟨v, rfl, hO2⟩; obtain ⟨A2, m2, c2, rfl⟩ := slcQ_form hO2.slc; have F2 := bel_trans F1 hO2.2; have K2 := (D.later F2 D.lt).five; have X2 := X.later F2 X.lt; obtain ⟨y0, y1, y2, y3, y4⟩ := X2.five; have fy := X2.frozen))
  have R1 := ((hO1.res (lo := w0.heap.size) (Nat.le_refl _)).later hO2.2).far5 (b := w.heap.size + 1) hXl (.int .i64 rt) (.int .i64 rq) (.int .i64 rv) (.slice A1 m1 c1) (.slice A2 m2 c2)
  have R2 := (hO2.res (lo := w1.heap.size) (Nat.le_refl _)).far5 (b := w.heap.size + 1) (Nat.lt_of_lt_of_le hXl F1.size) (.int .i64 rt) (.int .i64 rq) (.int .i64 rv) (.slice A1 m1 c1) (.slice A2 m2 c2)
  have E2 := bel_five (bel_trans hb0 F2) (b := w.heap.size + 1) (by omega) (.int .i64 rt) (.int .i64 rq) (.int .i64 rv) (.slice A1 m1 c1) (.slice A2 m2 c2)
  have hB1 : w.heap.size ≤ w1.heap.size := Nat.le_trans hb0.size F1.size
  have hB2 : w1.heap.size ≤ w2.heap.size := hO2.2.size
  replace R1 := Lib.hid R1
  replace R2 := Lib.hid R2
  replace E2 := Lib.hid E2
  clear K1 K2 hO1 hO2 F1 F2
  go_wp2
  exact bodyPost_ret (v := .agg #[.int .i64 rt, .int .i64 rq, .int .i64 rv, .slice A1 m1 c1, .slice A2 m2 c2]) (by simp [results, Tryz.results157, go_sem, y0, y1, y2, y3, y4]) rfl ⟨w1.heap.size, _, _, hB1, by simp only [size_set]; exact hB2, rfl, R1.out.wide hb0.size (Nat.le_refl _), R2.out, E2.out⟩


theorem place_put {os : List Opn} {o : Opn} {w w' : World} {e : Ending} (h : Place o.1 os w e w') : Below w.heap.size w w' ∧ ∃ i j : Nat, i ≤ os.length ∧ j ≤ os.length ∧ e = .returned (.tuple #[.int .i64 (i : Int), .int .i64 (j : Int)]) ∧ withO os o = putO os i j o := by
  obtain ⟨hb, ⟨i, hi, rfl⟩ | ⟨hn, rfl⟩⟩ := h
  · exact ⟨hb, i, i + 1, by have := hi.1; omega, hi.1, by rw [show ((i + 1 : Nat) : Int) = (i : Int) + 1 by omega], withO_first hi⟩
  · exact ⟨hb, _, _, behN_le _ _, behN_le _ _, rfl, withO_none hn⟩

theorem slcQ_take {w : World} {bb oo q qc i : Nat} {os : List Opn} (h : Quads w w.heap.size (some ⟨bb, oo, none⟩) q os) (hi : i ≤ q) (hc : q ≤ qc) (hm : qc ≤ maxLen) : SlcQ w (.slice (some ⟨bb, oo, none⟩) i qc) (os.take i) :=
  .inr ⟨bb, oo, i, qc, rfl, by omega, hm, h.take hi⟩
theorem slcQ_one {w : World} {g : Nat} {t : TypeId} {a b c d : Int} (h : Box w g t #[.int .i64 a, .int .i64 b, .int .i64 c, .int .i64 d]) : SlcQ w (.slice (some ⟨g, 0, none⟩) 1 1) [(a, b, c, d)] :=
  .inr ⟨g, 0, 1, 1, rfl, Nat.le_refl _, by unfold maxLen; omega, rfl, fun _ => ⟨g, 0, rfl, h.lt, fun i hi => by
    obtain rfl : i = 0 := by omega
    exact ⟨h.cell 0, h.cell 1, h.cell 2, h.cell 3⟩⟩⟩
theorem slcQ_drop {w : World} {bb oo q qc j : Nat} {os : List Opn} (h : Quads w w.heap.size (some ⟨bb, oo, none⟩) q os) (hj : j ≤ q) (hc : q ≤ qc) (hm : qc ≤ maxLen) : SlcQ w (.slice (if qc = j then some ⟨bb, oo, none⟩ else some ⟨bb, oo + j * 4, none⟩) (q - j) (qc - j)) (os.drop j) := by
  by_cases e : qc = j
  · rw [if_pos e]
    have e0 : q - j = 0 := by omega
    have e1 : os.drop j = [] := List.drop_of_length_le (by have := h.1; omega)
    rw [e0, e1]
    exact .inr ⟨bb, oo, 0, qc - j, rfl, by omega, by omega, quads_nil _ _ _⟩
  · rw [if_neg e]
    exact .inr ⟨bb, oo + j * 4, q - j, qc - j, rfl, by omega, by omega, h.drop hj⟩

/-- What WithOpen keeps, behind its list put together. -/
def WithAt (w wr : World) (S : Nat) (rt rq rv : Int) (P : Option Addr) (p pc : Nat) (os : List Opn) : Prop :=
  ∃ (A4 : Option Addr) (m4 c4 : Nat), Box wr (w.heap.size + 1 + 1) 80 #[.int .i64 0, .int .i64 0, .int .i64 0, .slice none 0 0, .slice none 0 0] ∧ Box wr S 201 #[.int .i64 rt, .int .i64 rq, .int .i64 rv, .slice P p pc, .slice A4 m4 c4] ∧ SlcQ wr (.slice A4 m4 c4) os ∧ Below w.heap.size w wr
theorem with_mk {w wr : World} {S : Nat} {rt rq rv : Int} {P : Option Addr} {p pc : Nat} {Q : Value} {A4 : Option Addr} {m4 c4 lo : Nat} {os : List Opn} (hX : Box wr (w.heap.size + 1 + 1) 80 #[.int .i64 0, .int .i64 0, .int .i64 0, .slice none 0 0, .slice none 0 0]) (hY : Box wr S 201 #[.int .i64 rt, .int .i64 rq, .int .i64 rv, .slice P p pc, Q]) (hb : Below w.heap.size w wr) (hS : w.heap.size + 1 + 1 < S) (hO : ResO wr lo (.slice A4 m4 c4) os) (hlo : S < lo) :
    WithAt w (wr.setCell ⟨S, 4, none⟩ (.slice A4 m4 c4)) S rt rq rv P p pc os :=
  ⟨A4, m4, c4, hX.far (p := ⟨S, 4, none⟩) (by show S ≠ _; omega) _, hY.set 4 _, (hO.far hlo 4 _).slc, hb.setCell (p := ⟨S, 4, none⟩) (by show _ ≤ S; omega) _⟩


set_option maxRecDepth 100000 in
/-- WithOpen's last step, of which the walk speaks twice. -/
theorem regr_put {w wc w' : World} {rt rq rv : Int} {ps : List (Int × Int)} {os : List Opn} {B R : Nat} {u v : Value} (E : Below w.heap.size w wc) (hR0 : w.heap.size ≤ R) (hR : R < wc.heap.size) (hB : wc.heap.size ≤ B) (hB' : B ≤ w'.heap.size) (h1 : ResP w' wc.heap.size B u ps) (h2 : ResO w' B v os) (hb : Below wc.heap.size wc w') (x0 x1 x2 x3 x4 : Value) :
    RegR w rt rq rv ps os (.returned (.agg #[.int .i64 rt, .int .i64 rq, .int .i64 rv, u, v])) (((((w'.setCell ⟨R, 0, none⟩ x0).setCell ⟨R, 1, none⟩ x1).setCell ⟨R, 2, none⟩ x2).setCell ⟨R, 3, none⟩ x3).setCell ⟨R, 4, none⟩ x4) :=
  ⟨B, u, v, Nat.le_trans E.size hB, by simp only [size_set]; exact hB', rfl, (h1.far5 hR x0 x1 x2 x3 x4).wide E.size (Nat.le_refl _), h2.far5 (by omega) x0 x1 x2 x3 x4, bel_five (bel_trans E hb) hR0 x0 x1 x2 x3 x4⟩

set_option maxRecDepth 100000 in
set_option maxHeartbeats 2000000 in
theorem withOpen_is (rt rq rv : Int) (P : Option Addr) (p pc : Nat) (Q : Option Addr) (q qc : Nat) (a b c d : Int) (ps : List (Int × Int)) (os : List Opn) (w : World) (hp : ps.length ≤ 2000000) (hq : os.length ≤ 2000000) (h1 : Slc w (.slice P p pc) ps) (h2 : SlcQ w (.slice Q q qc) os) :
    Calls Tryz.prog 102 #[.agg #[.int .i64 rt, .int .i64 rq, .int .i64 rv, .slice P p pc, .slice Q q qc], .agg #[.int .i64 a, .int .i64 b, .int .i64 c, .int .i64 d]] w (RegR w rt rq rv ps (withO os (a, b, c, d))) := by
  have D := ((Box.new w 80 #[.int .i64 rt, .int .i64 rq, .int .i64 rv, .slice P p pc, .slice Q q qc]).alloc (.cells #[.int .i64 a, .int .i64 b, .int .i64 c, .int .i64 d] 97)).alloc (.cells #[.int .i64 0, .int .i64 0, .int .i64 0, .slice none 0 0, .slice none 0 0] 80)
  have O := (Box.new (w.alloc (.cells #[.int .i64 rt, .int .i64 rq, .int .i64 rv, .slice P p pc, .slice Q q qc] 80)) 97 #[.int .i64 a, .int .i64 b, .int .i64 c, .int .i64 d]).alloc (.cells #[.int .i64 0, .int .i64 0, .int .i64 0, .slice none 0 0, .slice none 0 0] 80)
  have X := Box.new ((w.alloc (.cells #[.int .i64 rt, .int .i64 rq, .int .i64 rv, .slice P p pc, .slice Q q qc] 80)).alloc (.cells #[.int .i64 a, .int .i64 b, .int .i64 c, .int .i64 d] 97)) 80 #[.int .i64 0, .int .i64 0, .int .i64 0, .slice none 0 0, .slice none 0 0]
  have hb0 := bel_trans (bel_trans (bel_alloc w (.cells #[.int .i64 rt, .int .i64 rq, .int .i64 rv, .slice P p pc, .slice Q q qc] 80)) (bel_alloc _ (.cells #[.int .i64 a, .int .i64 b, .int .i64 c, .int .i64 d] 97))) (bel_alloc _ (.cells #[.int .i64 0, .int .i64 0, .int .i64 0, .slice none 0 0, .slice none 0 0] 80))
  simp only [World.size_alloc] at X O
  have H1w := Lib.hid h1
  have H2 := Lib.hid (h2.later hb0)
  clear h1 h2
  go_enter Tryz.func102, Tryz.ntmps102
  go_wp2_with fail
  generalize (((w.alloc _).alloc _).alloc _ : World) = w0 at hb0 D O X H2 ⊢
  refine (boardOf_is rt rq rv P p pc Q q qc w0).mono ?_
  rintro e w1 ⟨rfl, hb1⟩
  have O1 := O.later hb1 O.lt
  have X1 := X.later hb1 X.lt
  have E1 := bel_trans hb0 hb1
  have H21 := Lib.hid (H2.out.later hb1)
  clear D O X hb0 hb1 H2
  have Y := Box.new w1 201 #[.int .i64 rt, .int .i64 rq, .int .i64 rv, .slice P p pc, .slice Q q qc]
  have hb2 := bel_alloc w1 (.cells #[.int .i64 rt, .int .i64 rq, .int .i64 rv, .slice P p pc, .slice Q q qc] 201)
  obtain ⟨o0, o1, o2, o3⟩ := O1.four
  have hO1 := O1.lt
  have hX1 := X1.lt
  go_wp2_with fail
  have O2 := O1.later hb2 O1.lt
  have X2 := X1.later hb2 X1.lt
  have E2 := bel_trans E1 hb2
  have H22 := Lib.hid (H21.out.later hb2)
  generalize (w1.alloc _ : World) = w2 at Y hb2 O2 X2 E2 H22 ⊢
  generalize w1.heap.size = S at Y hO1 hX1 ⊢
  clear O1 X1 E1 H21 hb2 o0 o1 o2 o3
  have HQ22 : Hid (∃ A n c, Quads w2 w2.heap.size A n os ∧ Value.slice Q q qc = .slice A n c) := by
    rcases H22.out with ⟨hv, rfl⟩ | ⟨bb, oo, n, cap, hv, _, _, hq⟩
    · exact ⟨none, 0, 0, quads_nil _ _ _, hv⟩
    · exact ⟨_, n, cap, hq, hv⟩
  obtain ⟨A', n', c', hQ, hv⟩ := HQ22.out
  injection hv with e1 e2 e3
  subst e1 e2 e3
  have hql := Lib.hid hQ.1
  have hq' : q ≤ 2000000 := by rw [← hQ.1]; exact hq
  refine (placeOf_is Q q qc os a w2 (by omega) hQ).mono ?_
  intro e w3 hpl
  obtain ⟨hb3, i, j, hi, hj, rfl, hwO⟩ := place_put (o := (a, b, c, d)) hpl
  rw [hwO]
  have O3 := O2.later hb3 O2.lt
  have X3 := X2.later hb3 X2.lt
  have Y3 := Y.later hb3 Y.lt
  have E3 := bel_trans E2 hb3
  have H23 := H22.out.later hb3
  rw [hql.out] at hi hj
  replace hwO := Lib.hid hwO
  clear O2 X2 Y E2 H22 HQ22 hQ hpl hb3
  obtain ⟨o0, o1, o2, o3⟩ := O3.four
  obtain ⟨y0, y1, y2, y3, y4⟩ := Y3.five
  rcases H23 with ⟨hv, hos⟩ | ⟨bb, oo, n, cap, hv, hnc, hcm, hQ⟩
  · injection hv with e1 e2 e3
    subst e1 e2 e3
    obtain rfl : i = 0 := by omega
    obtain rfl : j = 0 := by omega
    subst hos
    have hb4 := bel_trans (bel_alloc w3 (.cells #[.int .i64 a, .int .i64 b, .int .i64 c, .int .i64 d] 97)) (bel_alloc _ (.cells #[.slice none 0 0, .slice (some ⟨w3.heap.size, 0, none⟩) 1 1, .slice none 0 0] 78))
    have BQ := Box.new (w3.alloc (.cells #[.int .i64 a, .int .i64 b, .int .i64 c, .int .i64 d] 97)) 78 #[.slice none 0 0, .slice (some ⟨w3.heap.size, 0, none⟩) 1 1, .slice none 0 0]
    have BO := (Box.new w3 97 #[.int .i64 a, .int .i64 b, .int .i64 c, .int .i64 d]).alloc (.cells #[.slice none 0 0, .slice (some ⟨w3.heap.size, 0, none⟩) 1 1, .slice none 0 0] 78)
    simp only [World.size_alloc] at BQ
    have T1 := slcQ_one BO
    replace T1 := Lib.hid T1
    replace BQ := Lib.hid BQ
    have hS3 := Y3.lt
    have hO3 := O3.lt
    have hX3 := X3.lt
    have fy := Y3.frozen
    have hnl : ([] : List Opn).length + [(a, b, c, d)].length + ([] : List Opn).length ≤ 4194304 := by simp
    clear BO
    go_upto_region 3 with fail
    go_cut [29] (fun _ wr => WithAt w wr S rt rq rv P p pc (putO [] 0 0 (a, b, c, d)))
    case first =>
      go_region_law (first
        | (go_simp; go_at_call 158; refine (concatOpens_is (w3.heap.size + 1) (.slice none 0 0) (.slice (some ⟨w3.heap.size, 0, none⟩) 1 1) (.slice none 0 0) [] [(a, b, c, d)] [] _ hnl ?_ ?_ ?_ ?_).mono ?_; exact BQ.out; exact .inl ⟨rfl, rfl⟩; exact T1.out; exact .inl ⟨rfl, rfl⟩; rintro e w4 ⟨u, rfl, hO4⟩; obtain ⟨A4, m4, c4, rfl⟩ := slcQ_form hO4.slc; have F4 := bel_trans hb4 (bel_drew' hO4.2); have Y4 := Y3.later F4 Y3.lt; have z4 := Y4.cell 4; have fz := Y4.frozen))
      all_goals
        have HW := Lib.hid (with_mk (os := putO [] 0 0 (a, b, c, d)) (X3.later F4 X3.lt) Y4 (bel_trans E3 F4) (by omega) (hO4.res (lo := w3.heap.size) (by simp; omega)) hS3)
        clear z4 fz Y4 F4 hO4
        go_wp2_with fail
        go_meet
        exact HW.out
    case rest =>
    obtain ⟨A4, m4, c4, X4, Y4, hS4, E4⟩ := hcut
    have HS4 := Lib.hid hS4
    clear hS4 BQ T1 hb4 hnl o0 o1 o2 o3 y0 y1 y2 y3 y4 fy O3 X3 Y3 E3
    obtain ⟨y0, y1, y2, y3, y4⟩ := Y4.five
    have hlen : (putO [] 0 0 (a, b, c, d)).length ≤ 4194304 := by rw [putO_len (by simp) (by simp)]; simp
    replace hlen := Lib.hid hlen
    have hX4 := X4.lt
    go_wp2_with fail
    refine (reg_is rt rq rv P p pc A4 m4 c4 ps _ wc (by omega) hlen.out (H1w.out.later E4) HS4.out).mono ?_
    rintro e w5 ⟨B, u, v, hB, hB', rfl, hR1, hR2, hb5⟩
    obtain ⟨A5, c5, rfl, _, _, _, _⟩ := hR1.form
    obtain ⟨A6, c6, rfl, _, _, _, _⟩ := hR2.form
    have X5 := X4.later hb5 X4.lt
    obtain ⟨x0, x1, x2, x3, x4⟩ := X5.five
    have fx := X5.frozen
    have HP := Lib.hid (regr_put (rt := rt) (rq := rq) (rv := rv) (R := w.heap.size + 1 + 1) E4 (by omega) hX4 hB hB' hR1 hR2 hb5)
    rw [← hwO.out] at HP hR2 ⊢
    clear hR1 hR2 y0 y1 y2 y3 y4
    go_wp2
    exact bodyPost_ret (v := .agg #[.int .i64 rt, .int .i64 rq, .int .i64 rv, .slice A5 ps.length c5, .slice A6 (withO [] (a, b, c, d)).length c6]) (by simp [results, Tryz.results102, go_sem, x0, x1, x2, x3, x4]) rfl (HP.out _ _ _ _ _)

  · injection hv with e1 e2 e3
    subst e1 e2 e3
    unfold maxLen at hcm
    have hi0 : (0 : Int) ≤ (i : Int) := by omega
    have hi1 : (i : Int) ≤ (qc : Int) := by omega
    have hj0 : (0 : Int) ≤ (j : Int) := by omega
    have hj1 : (j : Int) ≤ (q : Int) := by omega
    have hj2 : (q : Int) ≤ (qc : Int) := by omega
    obtain ⟨Z, hZ⟩ : ∃ Z : Option Addr, (if qc = j then some ⟨bb, oo, none⟩ else some ⟨bb, oo + j * 4, none⟩) = Z := ⟨_, rfl⟩
    have hb4 := bel_trans (bel_alloc w3 (.cells #[.int .i64 a, .int .i64 b, .int .i64 c, .int .i64 d] 97)) (bel_alloc _ (.cells #[.slice (some ⟨bb, oo, none⟩) i qc, .slice (some ⟨w3.heap.size, 0, none⟩) 1 1, .slice Z (q - j) (qc - j)] 78))
    have BQ := Box.new (w3.alloc (.cells #[.int .i64 a, .int .i64 b, .int .i64 c, .int .i64 d] 97)) 78 #[.slice (some ⟨bb, oo, none⟩) i qc, .slice (some ⟨w3.heap.size, 0, none⟩) 1 1, .slice Z (q - j) (qc - j)]
    have BO := (Box.new w3 97 #[.int .i64 a, .int .i64 b, .int .i64 c, .int .i64 d]).alloc (.cells #[.slice (some ⟨bb, oo, none⟩) i qc, .slice (some ⟨w3.heap.size, 0, none⟩) 1 1, .slice Z (q - j) (qc - j)] 78)
    simp only [World.size_alloc] at BQ
    have T0 := slcQ_take (hQ.later hb4) hi hnc (show qc ≤ maxLen by unfold maxLen; omega)
    have T1 := slcQ_one BO
    have T2 := slcQ_drop (hQ.later hb4) hj hnc (show qc ≤ maxLen by unfold maxLen; omega)
    have hnl : (os.take i).length + [(a, b, c, d)].length + (os.drop j).length ≤ 4194304 := by rw [List.length_take, List.length_drop, List.length_singleton, hql.out]; omega
    rw [hZ] at T2
    replace T0 := Lib.hid T0
    replace T1 := Lib.hid T1
    replace T2 := Lib.hid T2
    replace BQ := Lib.hid BQ
    have hS3 := Y3.lt
    have hO3 := O3.lt
    have hX3 := X3.lt
    have fy := Y3.frozen
    clear hQ BO
    go_upto_region 3 with fail
    go_cut [29] (fun _ wr => WithAt w wr S rt rq rv P p pc (putO os i j (a, b, c, d)))
    case first =>
      go_region_law (first
        | (go_simp; go_at_call 158; refine (concatOpens_is (w3.heap.size + 1) (.slice (some ⟨bb, oo, none⟩) i qc) (.slice (some ⟨w3.heap.size, 0, none⟩) 1 1) (.slice Z (q - j) (qc - j)) (os.take i) [(a, b, c, d)] (os.drop j) _ hnl ?_ ?_ ?_ ?_).mono ?_; exact BQ.out; exact T0.out; exact T1.out; exact T2.out; rintro e w4 ⟨u, rfl, hO4⟩; obtain ⟨A4, m4, c4, rfl⟩ := slcQ_form hO4.slc; have F4 := bel_trans hb4 (bel_drew' hO4.2); have Y4 := Y3.later F4 Y3.lt; have z4 := Y4.cell 4; have fz := Y4.frozen))
      all_goals
        have HW := Lib.hid (with_mk (os := putO os i j (a, b, c, d)) (X3.later F4 X3.lt) Y4 (bel_trans E3 F4) (by omega) (hO4.res (lo := w3.heap.size) (by simp; omega)) hS3)
        clear z4 fz Y4 F4 hO4
        go_wp2_with fail
        go_meet
        exact HW.out
    case rest =>
    obtain ⟨A4, m4, c4, X4, Y4, hS4, E4⟩ := hcut
    have HS4 := Lib.hid hS4
    clear hS4 BQ T0 T1 T2 hb4 hnl hZ o0 o1 o2 o3 y0 y1 y2 y3 y4 fy O3 X3 Y3 E3
    obtain ⟨y0, y1, y2, y3, y4⟩ := Y4.five
    have hlen : (putO os i j (a, b, c, d)).length ≤ 4194304 := by rw [putO_len (by rw [hql.out]; exact hi) (by rw [hql.out]; exact hj), hql.out]; omega
    replace hlen := Lib.hid hlen
    have hX4 := X4.lt
    go_wp2_with fail
    refine (reg_is rt rq rv P p pc A4 m4 c4 ps _ wc (by omega) hlen.out (H1w.out.later E4) HS4.out).mono ?_
    rintro e w5 ⟨B, u, v, hB, hB', rfl, hR1, hR2, hb5⟩
    obtain ⟨A5, c5, rfl, _, _, _, _⟩ := hR1.form
    obtain ⟨A6, c6, rfl, _, _, _, _⟩ := hR2.form
    have X5 := X4.later hb5 X4.lt
    obtain ⟨x0, x1, x2, x3, x4⟩ := X5.five
    have fx := X5.frozen
    have HP := Lib.hid (regr_put (rt := rt) (rq := rq) (rv := rv) (R := w.heap.size + 1 + 1) E4 (by omega) hX4 hB hB' hR1 hR2 hb5)
    rw [← hwO.out] at HP hR2 ⊢
    clear hR1 hR2 y0 y1 y2 y3 y4
    go_wp2
    exact bodyPost_ret (v := .agg #[.int .i64 rt, .int .i64 rq, .int .i64 rv, .slice A5 ps.length c5, .slice A6 (withO os (a, b, c, d)).length c6]) (by simp [results, Tryz.results102, go_sem, x0, x1, x2, x3, x4]) rfl (HP.out _ _ _ _ _)

end Go.Proofs.YtjdepjpjjgkmbaaGreat

/- The marks of opens and of shelves: what is written, what is found again, and what stays: contracts of each of them. -/
namespace Go.Proofs.YtjdepjpjjgkmbaaGreat
open Go.RowKit

/-- Only blocks from lo up to hi may have been written. -/
structure Band (lo hi : Nat) (w w' : World) : Prop where
  os : w'.os = w.os
  tape : w'.tape = w.tape
  output : w'.output = w.output
  size : w.heap.size ≤ w'.heap.size
  block : ∀ i, i < w.heap.size → (i < lo ∨ hi ≤ i) → w'.heap[i]? = w.heap[i]?
theorem Band.refl (lo hi : Nat) (w : World) : Band lo hi w w := ⟨rfl, rfl, rfl, Nat.le_refl _, fun _ _ _ => rfl⟩
theorem Band.trans {lo hi : Nat} {a b c : World} (h : Band lo hi a b) (k : Band lo hi b c) : Band lo hi a c :=
  ⟨k.os.trans h.os, k.tape.trans h.tape, k.output.trans h.output, Nat.le_trans h.size k.size, fun i hi' hb => (k.block i (Nat.lt_of_lt_of_le hi' h.size) hb).trans (h.block i hi' hb)⟩
theorem Band.of_below {lo hi : Nat} {a b : World} (h : Below a.heap.size a b) : Band lo hi a b := ⟨h.os, h.tape, h.output, h.size, fun i hi' _ => h.block i hi'⟩
theorem Band.of_grown {lo hi g : Nat} {a b : World} (h : a.grownBy b (some g)) (h1 : lo ≤ g) (h2 : g < hi) : Band lo hi a b :=
  ⟨h.os, h.tape, h.output, h.size, fun i hi' hb => h.block i hi' (by intro e; injection e with e; omega)⟩
theorem Band.below {lo hi : Nat} {w a b : World} (h : Band lo hi a b) (hb : Below w.heap.size w a) (hl : w.heap.size ≤ lo) : Below w.heap.size w b :=
  ⟨h.os.trans hb.os, h.tape.trans hb.tape, h.output.trans hb.output, Nat.le_trans hb.size h.size, fun i hi' => (h.block i (Nat.lt_of_lt_of_le hi' hb.size) (.inl (by omega))).trans (hb.block i hi')⟩
theorem Band.cell {lo hi : Nat} {a b : World} (h : Band lo hi a b) {g : Nat} (hg : g < a.heap.size) (hb : g < lo ∨ hi ≤ g) (o : Nat) : b.cell? ⟨g, o, none⟩ = a.cell? ⟨g, o, none⟩ := World.cell?_of_block (h.block g hg hb)
theorem Band.frozen {lo hi : Nat} {a b : World} (h : Band lo hi a b) {g : Nat} (hg : g < a.heap.size) (hb : g < lo ∨ hi ≤ g) (o : Nat) : b.frozen? ⟨g, o, none⟩ = a.frozen? ⟨g, o, none⟩ := World.frozen?_of_block (h.block g hg hb)
/-- A list of opens in a block of its own from lo to hi, or nil. -/
def ResQ (wr : World) (lo hi : Nat) (v : Value) (D : List Opn) : Prop :=
  (v = .slice none 0 0 ∧ D = []) ∨ ∃ g cap, lo ≤ g ∧ g < hi ∧ v = .slice (some ⟨g, 0, none⟩) D.length cap ∧ D.length ≤ cap ∧ cap ≤ maxLen ∧ HeldQ wr g D
theorem ResO.resQ {wr : World} {lo : Nat} {v : Value} {D : List Opn} (h : ResO wr lo v D) : ResQ wr lo wr.heap.size v D := by
  rcases h with h | ⟨g, cap, h1, h2, h3, h4, h5⟩
  · exact .inl h
  · exact .inr ⟨g, cap, h1, h5.lt, h2, h3, h4, h5⟩
theorem ResQ.resO {wr : World} {lo hi : Nat} {v : Value} {D : List Opn} (h : ResQ wr lo hi v D) : ResO wr lo v D := by
  rcases h with h | ⟨g, cap, h1, _, h2, h3, h4, h5⟩
  · exact .inl h
  · exact .inr ⟨g, cap, h1, h2, h3, h4, h5⟩
theorem ResQ.later {wr w' : World} {lo hi : Nat} {v : Value} {D : List Opn} (h : ResQ wr lo hi v D) (hb : Below wr.heap.size wr w') : ResQ w' lo hi v D := by
  rcases h with h | ⟨g, cap, h1, h2, h3, h4, h5, h6⟩
  · exact .inl h
  · exact .inr ⟨g, cap, h1, h2, h3, h4, h5, h6.later hb⟩
theorem markP_is {wr : World} {lo hi : Nat} {u : Value} {D : List (Int × Int)} (k : Int) (h : ResP wr lo hi u D) (hn : D.length ≤ 1048577) (hk0 : 0 ≤ k) (hk1 : k ≤ 50000000) :
    Calls Tryz.prog 36 #[u, .int .i64 k] wr fun e w' => e = .returned (.int .i64 (k + 2 * D.length)) ∧ ∃ D', D'.length = D.length ∧ Marked k D' ∧ ResP w' lo hi u D' ∧ Band lo hi wr w' := by
  rcases h with ⟨rfl, rfl⟩ | ⟨g, cap, h1, h2, rfl, h4, h5, h6⟩
  · refine (mark_nil k wr).mono ?_
    rintro e w' ⟨rfl, rfl⟩
    exact ⟨by simp, [], rfl, fun j hj => absurd hj (by simp), .inl ⟨rfl, rfl⟩, Band.refl _ _ _⟩
  · refine (mark_is g D.length cap k D wr (by omega) hk0 (by omega) rfl h6).mono ?_
    rintro e w' ⟨rfl, D', hd1, hd2, hd3, hg⟩
    exact ⟨rfl, D', hd1, hd2, .inr ⟨g, cap, h1, h2, by rw [hd1], by omega, h5, hd3⟩, Band.of_grown hg h1 h2⟩
theorem heldP_is {wr : World} {lo hi : Nat} {u : Value} {D : List (Int × Int)} (k : Int) (h : ResP wr lo hi u D) (hM : Marked k D) (hn : D.length ≤ 1048577) (hk0 : 0 ≤ k) (hk1 : k ≤ 50000000) :
    Calls Tryz.prog 107 #[u, .int .i64 k] wr fun e w' => e = .returned (.int .i64 (k + 2 * D.length)) ∧ wr = w' := by
  rcases h with ⟨rfl, rfl⟩ | ⟨g, cap, h1, h2, rfl, h4, h5, h6⟩
  · refine (held_nil k wr).mono ?_
    rintro e w' ⟨rfl, rfl⟩
    exact ⟨by simp, rfl⟩
  · exact held_is g D.length cap k D wr (by omega) hk0 (by omega) rfl hM h6
end Go.Proofs.YtjdepjpjjgkmbaaGreat

/- A variable that holds a shelf, with its lists in blocks of their own, all within a stretch of blocks: what keeps it, its marks, two of them compared. -/
namespace Go.Proofs.YtjdepjpjjgkmbaaGreat
open Go.RowKit

/-- The variable at g holds a shelf with lists ps and os; it and they lie in blocks from lo up to hi. -/
structure Var (wr : World) (lo hi g : Nat) (A : Option Addr) (n c : Nat) (A' : Option Addr) (n' c' : Nat) (rt rq rv : Int) (ps : List (Int × Int)) (os : List Opn) : Prop where
  box : Box wr g 80 #[.int .i64 rt, .int .i64 rq, .int .i64 rv, .slice A n c, .slice A' n' c']
  g0 : lo ≤ g
  g1 : g < hi
  hw : hi ≤ wr.heap.size
  lists : ∃ l B h, lo ≤ l ∧ l ≤ B ∧ B ≤ h ∧ h ≤ hi ∧ (g < l ∨ h ≤ g) ∧ ResP wr l B (.slice A n c) ps ∧ ResQ wr B h (.slice A' n' c') os
theorem Var.later {wr w' : World} {lo hi g : Nat} {A : Option Addr} {n c : Nat} {A' : Option Addr} {n' c' : Nat} {rt rq rv : Int} {ps : List (Int × Int)} {os : List Opn} (h : Var wr lo hi g A n c A' n' c' rt rq rv ps os) (hb : Below wr.heap.size wr w') : Var w' lo hi g A n c A' n' c' rt rq rv ps os := by
  obtain ⟨l, B, hh, h1, h2, h3, h4, h5, h6, h7⟩ := h.lists
  exact ⟨h.box.later hb h.box.lt, h.g0, h.g1, Nat.le_trans h.hw hb.size, l, B, hh, h1, h2, h3, h4, h5, h6.later hb, h7.later hb⟩
theorem Var.pairs {wr : World} {lo hi g : Nat} {A : Option Addr} {n c : Nat} {A' : Option Addr} {n' c' : Nat} {rt rq rv : Int} {ps : List (Int × Int)} {os : List Opn} (h : Var wr lo hi g A n c A' n' c' rt rq rv ps os) : ps.length = n ∧ Pairs wr wr.heap.size A n ps ∧ os.length = n' ∧ Quads wr wr.heap.size A' n' os ∧ n ≤ c ∧ c ≤ maxLen ∧ n' ≤ c' ∧ c' ≤ maxLen ∧ Slc wr (.slice A n c) ps ∧ SlcQ wr (.slice A' n' c') os := by
  obtain ⟨l, B, hh, h1, h2, h3, h4, h5, h6, h7⟩ := h.lists
  obtain ⟨A1, c1, e1, ha, hb, hc, hd⟩ := h6.form
  obtain ⟨A2, c2, e2, ha2, hb2, hc2, hd2⟩ := h7.resO.form
  injection e1 with e1 e1' e1''
  injection e2 with e2 e2' e2''
  subst e1 e1' e1'' e2 e2' e2''
  exact ⟨rfl, hc, rfl, hc2, ha, hb, ha2, hb2, hd, hd2⟩

theorem ResQ.far {w : World} {lo hi : Nat} {u : Value} {D : List Opn} (h : ResQ w lo hi u D) {b : Nat} (hb : b < lo) (o : Nat) (x : Value) : ResQ (w.setCell ⟨b, o, none⟩ x) lo hi u D := by
  rcases h with h | ⟨g, cap, h1, h2, h3, h4, h5, h6⟩
  · exact .inl h
  · exact .inr ⟨g, cap, h1, h2, h3, h4, h5, h6.far (by omega) o x⟩
end Go.Proofs.YtjdepjpjjgkmbaaGreat

/- A group, a shelf and a note as data behind variables: how they read, when they are one's own; no conditions. -/
namespace Go.Proofs.YtjdepjpjjgkmbaaGreat
open Go.RowKit

/-- Rows, pairs and opens that are read through blocks of F alone. -/
def RowF (w : World) (F : Nat → Prop) (A : Option Addr) (n : Nat) (zs : List Int) : Prop := Row w w.heap.size A n zs ∧ (0 < n → ∀ b o, A = some ⟨b, o, none⟩ → F b)
def PairsF (w : World) (F : Nat → Prop) (A : Option Addr) (n : Nat) (ps : List (Int × Int)) : Prop := Pairs w w.heap.size A n ps ∧ (0 < n → ∀ b o, A = some ⟨b, o, none⟩ → F b)
def QuadsF (w : World) (F : Nat → Prop) (A : Option Addr) (n : Nat) (os : List Opn) : Prop := Quads w w.heap.size A n os ∧ (0 < n → ∀ b o, A = some ⟨b, o, none⟩ → F b)
theorem RowF.turn {T : Nat → Prop} {w w' : World} {F : Nat → Prop} {A : Option Addr} {n : Nat} {zs : List Int} (h : RowF w F A n zs) (ht : Turns T w w') (hd : ∀ b, F b → ¬ T b) : RowF w' F A n zs := by
  refine ⟨⟨h.1.1, fun hn => ?_⟩, h.2⟩
  obtain ⟨b, o, hA, hb, hc⟩ := h.1.2 hn
  exact ⟨b, o, hA, Nat.lt_of_lt_of_le hb ht.size, fun i hi => (ht.cell hb (hd b (h.2 hn b o hA)) _).trans (hc i hi)⟩
theorem PairsF.turn {T : Nat → Prop} {w w' : World} {F : Nat → Prop} {A : Option Addr} {n : Nat} {ps : List (Int × Int)} (h : PairsF w F A n ps) (ht : Turns T w w') (hd : ∀ b, F b → ¬ T b) : PairsF w' F A n ps := by
  refine ⟨⟨h.1.1, fun hn => ?_⟩, h.2⟩
  obtain ⟨b, o, hA, hb, hc⟩ := h.1.2 hn
  have hx := hd b (h.2 hn b o hA)
  exact ⟨b, o, hA, Nat.lt_of_lt_of_le hb ht.size, fun i hi => ⟨(ht.cell hb hx _).trans (hc i hi).1, (ht.cell hb hx _).trans (hc i hi).2⟩⟩
theorem QuadsF.turn {T : Nat → Prop} {w w' : World} {F : Nat → Prop} {A : Option Addr} {n : Nat} {os : List Opn} (h : QuadsF w F A n os) (ht : Turns T w w') (hd : ∀ b, F b → ¬ T b) : QuadsF w' F A n os := by
  refine ⟨⟨h.1.1, fun hn => ?_⟩, h.2⟩
  obtain ⟨b, o, hA, hb, hc⟩ := h.1.2 hn
  have hx := hd b (h.2 hn b o hA)
  exact ⟨b, o, hA, Nat.lt_of_lt_of_le hb ht.size, fun i hi => ⟨(ht.cell hb hx _).trans (hc i hi).1, (ht.cell hb hx _).trans (hc i hi).2.1, (ht.cell hb hx _).trans (hc i hi).2.2.1, (ht.cell hb hx _).trans (hc i hi).2.2.2⟩⟩
theorem Pairs.all {w : World} {B : Nat} {A : Option Addr} {n : Nat} {ps : List (Int × Int)} (h : Pairs w B A n ps) : PairsF w (· < B) A n ps := by
  refine ⟨⟨h.1, fun hn => ?_⟩, fun hn b o e => ?_⟩
  · obtain ⟨b, o, hA, hb, hc⟩ := h.2 hn
    exact ⟨b, o, hA, lt_of_cell (hc 0 hn).1, hc⟩
  · obtain ⟨b', o', hA, hb, hc⟩ := h.2 hn
    rw [e] at hA
    injection hA with hA
    injection hA with hA
    subst hA
    exact hb
theorem Quads.all {w : World} {B : Nat} {A : Option Addr} {n : Nat} {os : List Opn} (h : Quads w B A n os) : QuadsF w (· < B) A n os := by
  refine ⟨⟨h.1, fun hn => ?_⟩, fun hn b o e => ?_⟩
  · obtain ⟨b, o, hA, hb, hc⟩ := h.2 hn
    exact ⟨b, o, hA, lt_of_cell (hc 0 hn).1, hc⟩
  · obtain ⟨b', o', hA, hb, hc⟩ := h.2 hn
    rw [e] at hA
    injection hA with hA
    injection hA with hA
    subst hA
    exact hb
theorem Row.all {w : World} {B : Nat} {A : Option Addr} {n : Nat} {zs : List Int} (h : Row w B A n zs) : RowF w (· < B) A n zs := by
  refine ⟨⟨h.1, fun hn => ?_⟩, fun hn b o e => ?_⟩
  · obtain ⟨b, o, hA, hb, hc⟩ := h.2 hn
    exact ⟨b, o, hA, lt_of_cell (hc 0 hn), hc⟩
  · obtain ⟨b', o', hA, hb, hc⟩ := h.2 hn
    rw [e] at hA
    injection hA with hA
    injection hA with hA
    subst hA
    exact hb

/-- A group's numbers; a shelf's; a note's. -/
structure GrpD where
  s : Int
  l : Int
  c : Int
  sh : Int
  zs : List Int
structure RegD where
  t : Int
  q : Int
  v : Int
  ps : List (Int × Int)
  os : List Opn
structure NoteD where
  k1 : Int
  k2 : Int
  k3 : Int
  k4 : Int
  k5 : Int
  t1 : Int
  t2 : Int
  v1 : Int
  o1 : Int
  o2 : Int
  v2 : Int
  l1 : Int
  l2 : Int
  v3 : Int
  cs : List (Int × Int)
  ms : List (Int × Int)
def GrpD.sz (d : GrpD) : Nat := d.zs.length
def RegD.sz (d : RegD) : Nat := d.ps.length + d.os.length
def NoteD.sz (d : NoteD) : Nat := d.cs.length + d.ms.length
def GrpD.mk8 (d : GrpD) : Int := d.zs.length
def RegD.mk8 (d : RegD) : Int := 2 * d.ps.length + 4 * d.os.length
def NoteD.mk8 (d : NoteD) : Int := 2 * d.cs.length + 2 * d.ms.length

/-- A value reads as a group; as a shelf; as a note. -/
def AtG (d : GrpD) (w : World) (F : Nat → Prop) (v : Value) : Prop :=
  ∃ (A : Option Addr) (n cap : Nat), v = .agg #[.int .i64 d.s, .int .i64 d.l, .int .i64 d.c, .int .i64 d.sh, .slice A n cap] ∧ n ≤ maxLen ∧ RowF w F A n d.zs
def AtR (d : RegD) (w : World) (F : Nat → Prop) (v : Value) : Prop :=
  ∃ (A : Option Addr) (n cap : Nat) (A' : Option Addr) (n' cap' : Nat), v = .agg #[.int .i64 d.t, .int .i64 d.q, .int .i64 d.v, .slice A n cap, .slice A' n' cap'] ∧ n ≤ maxLen ∧ n' ≤ maxLen ∧ PairsF w F A n d.ps ∧ QuadsF w F A' n' d.os
def NoteD.cells (d : NoteD) (P : Option Addr) (p pc : Nat) (Q : Option Addr) (q qc : Nat) : Array Value :=
  #[.int .i64 d.k1, .int .i64 d.k2, .int .i64 d.k3, .int .i64 d.k4, .int .i64 d.k5, .int .i64 d.t1, .int .i64 d.t2, .int .i64 d.v1, .int .i64 d.o1, .int .i64 d.o2, .int .i64 d.v2, .slice P p pc, .slice Q q qc, .int .i64 d.l1, .int .i64 d.l2, .int .i64 d.v3]
def AtN (d : NoteD) (w : World) (F : Nat → Prop) (v : Value) : Prop :=
  ∃ (A : Option Addr) (n cap : Nat) (A' : Option Addr) (n' cap' : Nat), v = .agg (d.cells A n cap A' n' cap') ∧ n ≤ maxLen ∧ n' ≤ maxLen ∧ PairsF w F A n d.cs ∧ PairsF w F A' n' d.ms
theorem keepsG (d : GrpD) : Keeps (AtG d) := ⟨fun ⟨A, n, c, e, h1, h2⟩ ht hd => ⟨A, n, c, e, h1, h2.turn ht hd⟩, fun ⟨A, n, c, e, h1, h2⟩ hs => ⟨A, n, c, e, h1, h2.1, fun hn b o e => hs b (h2.2 hn b o e)⟩⟩
/-- Keys, pairs and opens of one's own, in a block of F. -/
def OwnZ (w : World) (F : Nat → Prop) (v : Value) (zs : List Int) : Prop := ∃ g n cap, v = .slice (some ⟨g, 0, none⟩) n cap ∧ n ≤ cap ∧ cap ≤ maxLen ∧ F g ∧ g < w.heap.size ∧ (∀ i, w.frozen? ⟨g, i, none⟩ = false) ∧ Row w w.heap.size (some ⟨g, 0, none⟩) n zs
def OwnP (w : World) (F : Nat → Prop) (v : Value) (ps : List (Int × Int)) : Prop := (v = .slice none 0 0 ∧ ps = []) ∨ ∃ g cap, F g ∧ v = .slice (some ⟨g, 0, none⟩) ps.length cap ∧ ps.length ≤ cap ∧ cap ≤ maxLen ∧ Held w g ps
def OwnO (w : World) (F : Nat → Prop) (v : Value) (os : List Opn) : Prop := (v = .slice none 0 0 ∧ os = []) ∨ ∃ g cap, F g ∧ v = .slice (some ⟨g, 0, none⟩) os.length cap ∧ os.length ≤ cap ∧ cap ≤ maxLen ∧ HeldQ w g os
theorem Held.turn {T : Nat → Prop} {a b : World} {g : Nat} {d : List (Int × Int)} (hx : Held a g d) (h : Turns T a b) (hb : ¬ T g) : Held b g d :=
  ⟨Nat.lt_of_lt_of_le hx.lt h.size, fun o => (h.frozen hx.lt hb o).trans (hx.fr o), fun i hi' => (h.cell hx.lt hb _).trans (hx.at0 i hi'), fun i hi' => (h.cell hx.lt hb _).trans (hx.at1 i hi')⟩
theorem HeldQ.turn {T : Nat → Prop} {a b : World} {g : Nat} {d : List Opn} (hx : HeldQ a g d) (h : Turns T a b) (hb : ¬ T g) : HeldQ b g d :=
  hx.keep (Nat.lt_of_lt_of_le hx.lt h.size) (fun o => h.frozen hx.lt hb o) (fun o => h.cell hx.lt hb o)
theorem OwnP.turn {T : Nat → Prop} {w w' : World} {F : Nat → Prop} {v : Value} {ps : List (Int × Int)} (h : OwnP w F v ps) (ht : Turns T w w') (hd : ∀ b, F b → ¬ T b) : OwnP w' F v ps := by
  rcases h with h | ⟨g, cap, hF, h1, h2, h3, h4⟩
  · exact .inl h
  · exact .inr ⟨g, cap, hF, h1, h2, h3, h4.turn ht (hd g hF)⟩
theorem OwnO.turn {T : Nat → Prop} {w w' : World} {F : Nat → Prop} {v : Value} {os : List Opn} (h : OwnO w F v os) (ht : Turns T w w') (hd : ∀ b, F b → ¬ T b) : OwnO w' F v os := by
  rcases h with h | ⟨g, cap, hF, h1, h2, h3, h4⟩
  · exact .inl h
  · exact .inr ⟨g, cap, hF, h1, h2, h3, h4.turn ht (hd g hF)⟩
theorem OwnZ.turn {T : Nat → Prop} {w w' : World} {F : Nat → Prop} {v : Value} {zs : List Int} (h : OwnZ w F v zs) (ht : Turns T w w') (hd : ∀ b, F b → ¬ T b) : OwnZ w' F v zs := by
  obtain ⟨g, n, cap, e, h1, h2, hF, hl, hf, hr⟩ := h
  refine ⟨g, n, cap, e, h1, h2, hF, Nat.lt_of_lt_of_le hl ht.size, fun i => (ht.frozen hl (hd g hF) i).trans (hf i), hr.1, fun hn => ?_⟩
  obtain ⟨b, o, hA, hb, hc⟩ := hr.2 hn
  cases hA
  exact ⟨_, _, rfl, Nat.lt_of_lt_of_le hl ht.size, fun i hi => (ht.cell hl (hd _ hF) _).trans (hc i hi)⟩
theorem OwnP.sub {w : World} {F F' : Nat → Prop} {v : Value} {ps : List (Int × Int)} (h : OwnP w F v ps) (hs : ∀ b, F b → F' b) : OwnP w F' v ps := by
  rcases h with h | ⟨g, cap, hF, h1⟩
  · exact .inl h
  · exact .inr ⟨g, cap, hs g hF, h1⟩
theorem OwnO.sub {w : World} {F F' : Nat → Prop} {v : Value} {os : List Opn} (h : OwnO w F v os) (hs : ∀ b, F b → F' b) : OwnO w F' v os := by
  rcases h with h | ⟨g, cap, hF, h1⟩
  · exact .inl h
  · exact .inr ⟨g, cap, hs g hF, h1⟩
theorem OwnZ.sub {w : World} {F F' : Nat → Prop} {v : Value} {zs : List Int} (h : OwnZ w F v zs) (hs : ∀ b, F b → F' b) : OwnZ w F' v zs := by
  obtain ⟨g, n, cap, e, h1, h2, hF, h3⟩ := h
  exact ⟨g, n, cap, e, h1, h2, hs g hF, h3⟩
theorem OwnP.at {w : World} {F : Nat → Prop} {v : Value} {ps : List (Int × Int)} (h : OwnP w F v ps) : ∃ A cap, v = .slice A ps.length cap ∧ ps.length ≤ maxLen ∧ PairsF w F A ps.length ps ∧ Slc w v ps := by
  rcases h with ⟨rfl, rfl⟩ | ⟨g, cap, hF, rfl, h1, h2, h3⟩
  · exact ⟨none, 0, rfl, Nat.zero_le _, ⟨⟨rfl, fun h => absurd h (by simp)⟩, fun h => absurd h (by simp)⟩, .inl ⟨rfl, rfl⟩⟩
  · exact ⟨_, cap, rfl, Nat.le_trans h1 h2, ⟨h3.pairs, fun _ b o e => by injection e with e; injection e with e; exact e ▸ hF⟩, .inr ⟨g, 0, _, cap, rfl, h3.pairs⟩⟩
theorem OwnO.at {w : World} {F : Nat → Prop} {v : Value} {os : List Opn} (h : OwnO w F v os) : ∃ A cap, v = .slice A os.length cap ∧ os.length ≤ maxLen ∧ QuadsF w F A os.length os ∧ SlcQ w v os := by
  rcases h with ⟨rfl, rfl⟩ | ⟨g, cap, hF, rfl, h1, h2, h3⟩
  · exact ⟨none, 0, rfl, Nat.zero_le _, ⟨⟨rfl, fun h => absurd h (by simp)⟩, fun h => absurd h (by simp)⟩, .inl ⟨rfl, rfl⟩⟩
  · exact ⟨_, cap, rfl, Nat.le_trans h1 h2, ⟨h3.quads, fun _ b o e => by injection e with e; injection e with e; exact e ▸ hF⟩, .inr ⟨g, 0, _, cap, rfl, h1, h2, h3.quads⟩⟩

/-- A group, a shelf, a note of one's own: the lists lie in blocks of F, apart from one another. -/
def LieG (d : GrpD) (w : World) (F : Nat → Prop) (v : Value) : Prop := ∃ u, v = .agg #[.int .i64 d.s, .int .i64 d.l, .int .i64 d.c, .int .i64 d.sh, u] ∧ OwnZ w F u d.zs
def LieR (d : RegD) (w : World) (F : Nat → Prop) (v : Value) : Prop := ∃ (A : Option Addr) (n c : Nat) (A' : Option Addr) (n' c' lo B hi : Nat), v = .agg #[.int .i64 d.t, .int .i64 d.q, .int .i64 d.v, .slice A n c, .slice A' n' c'] ∧ ResP w lo B (.slice A n c) d.ps ∧ ResQ w B hi (.slice A' n' c') d.os ∧ lo ≤ B ∧ B ≤ hi ∧ hi ≤ w.heap.size ∧ ∀ b, Iv lo hi b → F b
def LieN (d : NoteD) (w : World) (F : Nat → Prop) (v : Value) : Prop := ∃ (g n c g' n' c' : Nat), v = .agg (d.cells (some ⟨g, 0, none⟩) n c (some ⟨g', 0, none⟩) n' c') ∧ d.cs.length = n ∧ d.ms.length = n' ∧ n ≤ maxLen ∧ n' ≤ maxLen ∧ Held w g d.cs ∧ Held w g' d.ms ∧ F g ∧ F g' ∧ g ≠ g'
theorem keepsLG (d : GrpD) : Keeps (LieG d) := ⟨fun ⟨u, e, h⟩ ht hd => ⟨u, e, h.turn ht hd⟩, fun ⟨u, e, h⟩ hs => ⟨u, e, h.sub hs⟩⟩
theorem ResP.turn {T : Nat → Prop} {w w' : World} {lo hi : Nat} {v : Value} {ps : List (Int × Int)} (h : ResP w lo hi v ps) (ht : Turns T w w') (hd : ∀ b, Iv lo hi b → ¬ T b) : ResP w' lo hi v ps := by
  rcases h with h | ⟨g, cap, h0, h0', h1, h2, h3, h4⟩
  · exact .inl h
  · exact .inr ⟨g, cap, h0, h0', h1, h2, h3, h4.turn ht (hd g ⟨h0, h0'⟩)⟩
theorem ResQ.turn {T : Nat → Prop} {w w' : World} {lo hi : Nat} {v : Value} {os : List Opn} (h : ResQ w lo hi v os) (ht : Turns T w w') (hd : ∀ b, Iv lo hi b → ¬ T b) : ResQ w' lo hi v os := by
  rcases h with h | ⟨g, cap, h0, h0', h1, h2, h3, h4⟩
  · exact .inl h
  · exact .inr ⟨g, cap, h0, h0', h1, h2, h3, h4.turn ht (hd g ⟨h0, h0'⟩)⟩
theorem ResP.own {w : World} {lo hi : Nat} {v : Value} {ps : List (Int × Int)} (h : ResP w lo hi v ps) : OwnP w (Iv lo hi) v ps := by
  rcases h with h | ⟨g, cap, h0, h0', h1, h2, h3, h4⟩
  · exact .inl h
  · exact .inr ⟨g, cap, ⟨h0, h0'⟩, h1, h2, h3, h4⟩
theorem ResQ.own {w : World} {lo hi : Nat} {v : Value} {os : List Opn} (h : ResQ w lo hi v os) : OwnO w (Iv lo hi) v os := by
  rcases h with h | ⟨g, cap, h0, h0', h1, h2, h3, h4⟩
  · exact .inl h
  · exact .inr ⟨g, cap, ⟨h0, h0'⟩, h1, h2, h3, h4⟩
theorem keepsLR (d : RegD) : Keeps (LieR d) :=
  ⟨fun ⟨A, n, c, A', n', c', lo, B, hi, e, h1, h2, o1, o2, o3, hF⟩ ht hd => ⟨A, n, c, A', n', c', lo, B, hi, e, h1.turn ht (fun b hb => hd b (hF b (iv_sub (Nat.le_refl _) o2 b hb))), h2.turn ht (fun b hb => hd b (hF b (iv_sub o1 (Nat.le_refl _) b hb))), o1, o2, Nat.le_trans o3 ht.size, hF⟩,
   fun ⟨A, n, c, A', n', c', lo, B, hi, e, h1, h2, o1, o2, o3, hF⟩ hs => ⟨A, n, c, A', n', c', lo, B, hi, e, h1, h2, o1, o2, o3, fun b hb => hs b (hF b hb)⟩⟩
theorem LieG.at {d : GrpD} {w : World} {F : Nat → Prop} {v : Value} (h : LieG d w F v) : AtG d w F v := by
  obtain ⟨u, e, g, n, cap, rfl, h1, h2, hF, hl, hf, hr⟩ := h
  exact ⟨_, n, cap, e, Nat.le_trans h1 h2, hr, fun _ b o e => by injection e with e; injection e with e; exact e ▸ hF⟩
theorem LieR.at {d : RegD} {w : World} {F : Nat → Prop} {v : Value} (h : LieR d w F v) : AtR d w F v := by
  obtain ⟨A, n, c, A', n', c', lo, B, hi, e, h1, h2, o1, o2, o3, hF⟩ := h
  obtain ⟨A1, c1, e1, m, p, _⟩ := h1.own.at
  obtain ⟨A2, c2, e2, m', p', _⟩ := h2.own.at
  injection e1 with e1 e1' e1''
  injection e2 with e2 e2' e2''
  subst e1 e1' e1'' e2 e2' e2''
  exact ⟨A, _, c, A', _, c', e, m, m', ⟨p.1, fun hn b o e => hF b (iv_sub (Nat.le_refl _) o2 b (p.2 hn b o e))⟩, ⟨p'.1, fun hn b o e => hF b (iv_sub o1 (Nat.le_refl _) b (p'.2 hn b o e))⟩⟩
theorem LieR.slc {d : RegD} {w : World} {F : Nat → Prop} {v : Value} (h : LieR d w F v) : ∃ (A : Option Addr) (n c : Nat) (A' : Option Addr) (n' c' : Nat), v = .agg #[.int .i64 d.t, .int .i64 d.q, .int .i64 d.v, .slice A n c, .slice A' n' c'] ∧ Slc w (.slice A n c) d.ps ∧ SlcQ w (.slice A' n' c') d.os ∧ d.ps.length = n ∧ d.os.length = n' := by
  obtain ⟨A, n, c, A', n', c', lo, B, hi, e, h1, h2, o1, o2, o3, hF⟩ := h
  obtain ⟨A1, c1, e1, m, p, s1⟩ := h1.own.at
  obtain ⟨A2, c2, e2, m', p', s2⟩ := h2.own.at
  injection e1 with e1 e1' e1''
  injection e2 with e2 e2' e2''
  subst e1 e1' e1'' e2 e2' e2''
  exact ⟨A, _, c, A', _, c', e, s1, s2, rfl, rfl⟩
theorem LieN.at {d : NoteD} {w : World} {F : Nat → Prop} {v : Value} (h : LieN d w F v) : AtN d w F v := by
  obtain ⟨g, n, c, g', n', c', e, rfl, rfl, m1, m2, h1, h2, f1, f2, hne⟩ := h
  exact ⟨_, _, c, _, _, c', e, m1, m2, ⟨h1.pairs, fun _ b o e => by injection e with e; injection e with e; exact e ▸ f1⟩, ⟨h2.pairs, fun _ b o e => by injection e with e; injection e with e; exact e ▸ f2⟩⟩

theorem sizeG {d : GrpD} {w : World} {F : Nat → Prop} {C : Array Value} (h : AtG d w F (.agg C)) : (Tryz.prog.info? 47).map (·.size) = some C.size ∧ (Tryz.prog.info? 26).map (·.size) = some C.size := by
  obtain ⟨A, n, cap, e, _⟩ := h
  injection e with e
  subst e
  exact ⟨by kernel_rfl, by kernel_rfl⟩
theorem oneG {d : GrpD} {w : World} {F : Nat → Prop} {C : Array Value} (h : AtG d w F (.agg C)) : C.size = 5 ∧ C.all (·.oneCell') = true := by
  obtain ⟨A, n, cap, e, _⟩ := h
  injection e with e
  subst e
  exact ⟨rfl, by simp [Value.oneCell']⟩
theorem oneR {d : RegD} {w : World} {F : Nat → Prop} {C : Array Value} (h : AtR d w F (.agg C)) : C.size = 5 ∧ C.all (·.oneCell') = true := by
  obtain ⟨A, n, cap, A', n', cap', e, _⟩ := h
  injection e with e
  subst e
  exact ⟨rfl, by simp [Value.oneCell']⟩
/-- A fresh variable that was written whole at once. -/
theorem bel_new_row (w : World) (Z : Array Value) (t : TypeId) (C : Array Value) : Below w.heap.size w ((w.alloc (.cells Z t)).setRow w.heap.size C) :=
  (turns_setRow (w.alloc (.cells Z t)) w.heap.size C).below (bel_alloc w _) (fun i hi => by omega)
theorem var_new_row {P : World → (Nat → Prop) → Value → Prop} (k : Keeps P) {Z C : Array Value} (t : TypeId) {w : World} {F : Nat → Prop} (h : P w F (.agg C)) (hF : ∀ b, F b → b < w.heap.size) : VarOf P t ((w.alloc (.cells Z t)).setRow w.heap.size C) F w.heap.size C :=
  VarOf.put k (Box.new w t Z) (k.later h (bel_alloc w _)) (fun hf => absurd (hF _ hf) (Nat.lt_irrefl _))

end Go.Proofs.YtjdepjpjjgkmbaaGreat

/- What the model's functions of spec/l03_claim.go answer at every claim: contracts of each of them. -/
namespace Go.Proofs.YtjdepjpjjgkmbaaGreat
open Go.RowKit

theorem l3M_any (w : World) : Calls Tryz.prog 206 #[] w fun e w' => e = .returned (.int .i64 2147483647) ∧ w = w' := by
  go_enter Tryz.func206, Tryz.ntmps206
  go_wp2
  go_ret
  exact ⟨rfl, rfl⟩

theorem l3Value_any (x : Int) (w : World) : Calls Tryz.prog 196 #[.int .i64 x] w fun e w' => e = .returned (.bool (inB x 0 9999)) ∧ w = w' := by
  go_enter Tryz.func196, Tryz.ntmps196
  go_wp2_with (go_at_call 174; refine (l1In_any _ _ _ _).mono ?_; rintro e w' ⟨rfl, rfl⟩)
  go_ret
  exact ⟨rfl, rfl⟩

set_option maxHeartbeats 400000 in
theorem specClaim_any (ck ch ct cq cv : Int) (w : World) :
    Calls Tryz.prog 221 #[.agg #[.int .i64 ck, .int .i64 ch, .int .i64 ct, .int .i64 cq, .int .i64 cv]] w fun e w' => e = .returned (.bool (clB ck ch ct cq cv)) ∧ Below w.heap.size w w' := by
  have D := Box.new w 180 #[.int .i64 ck, .int .i64 ch, .int .i64 ct, .int .i64 cq, .int .i64 cv]
  have hb0 := bel_alloc w (.cells #[.int .i64 ck, .int .i64 ch, .int .i64 ct, .int .i64 cq, .int .i64 cv] 180)
  rcases h1 : inB ck 1 2 with _ | _
  · have e := Lib.hid (clB_1 h1 ch ct cq cv)
    go_enter Tryz.func221, Tryz.ntmps221
    go_wp2_with (go_at_call 174; refine (l1In_any _ _ _ _).mono ?_; rintro e w' ⟨rfl, rfl⟩)
    go_ret
    exact ⟨by rw [e.out]; rfl, hb0⟩
  rcases h2 : inB ch 0 3 with _ | _
  · have e := Lib.hid (clB_2 h2 ck ct cq cv)
    go_enter Tryz.func221, Tryz.ntmps221
    go_wp2_with (go_at_call 174; refine (l1In_any _ _ _ _).mono ?_; rintro e w' ⟨rfl, rfl⟩)
    go_ret
    exact ⟨by rw [e.out]; rfl, hb0⟩
  rcases h3 : stB ct cq with _ | _
  · have e := Lib.hid (clB_3 h3 ck ch cv)
    go_enter Tryz.func221, Tryz.ntmps221
    go_wp2_with (first | (go_at_call 174; refine (l1In_any _ _ _ _).mono ?_; rintro e w' ⟨rfl, rfl⟩) | (go_at_call 195; refine (specStampOk_any ct cq _).mono ?_; rintro e w1 ⟨rfl, hb1⟩))
    go_ret
    exact ⟨by rw [e.out]; rfl, bel_trans hb0 hb1⟩
  · have e := Lib.hid (clB_4 h1 h2 h3 cv)
    go_enter Tryz.func221, Tryz.ntmps221
    go_wp2_with (first | (go_at_call 174; refine (l1In_any _ _ _ _).mono ?_; rintro e w' ⟨rfl, rfl⟩) | (go_at_call 196; refine (l3Value_any _ _).mono ?_; rintro e w' ⟨rfl, rfl⟩) | (go_at_call 195; refine (specStampOk_any ct cq _).mono ?_; rintro e w1 ⟨rfl, hb1⟩; obtain ⟨d0, d1, d2, d3, d4⟩ := (D.later hb1 D.lt).five))
    go_ret
    exact ⟨by rw [e.out]; rfl, bel_trans hb0 hb1⟩

set_option maxHeartbeats 400000 in
theorem l3Mix_any (b n : Nat) (zs : List Int) (w : World) (hz : mixable zs) (hl : zs.length = n) (hn : n ≤ 16) (hr : Box w b 2 (zs.map (Value.int .i64)).toArray) :
    Calls Tryz.prog 188 #[.slice (some ⟨b, 0, none⟩) n n] w fun e w' => e = .returned (.int .i64 (mixN 7 zs)) ∧ Below w.heap.size w w' := by
  have HZ := Lib.hid hz
  have HL := Lib.hid hl
  have HR := Lib.hid hr
  clear hz hl hr
  go_enter Tryz.func188, Tryz.ntmps188
  go_wp2_with fail
  go_loopw [3, 4] (fun a i wr => ∃ (k : Nat) (y : Int), k ≤ n ∧ i = .int .i64 k ∧ a = .int .i64 y ∧ Hid (mixN 7 (zs.take k) = y) ∧ Below w.heap.size w wr) (fun _ i _ => n - (intOf i).toNat)
  case atStart => exact ⟨0, 7, by omega, rfl, rfl, rfl, Below.refl _ _⟩
  case round =>
    obtain ⟨k, y, hk, rfl, rfl, hy, E⟩ := hrel
    by_cases hlt : k < n
    · have R := HR.out.later E HR.out.lt
      have hr := After.cell (a := ⟨b, k, none⟩) R.lt (R.ints (i := k) (by rw [HL.out]; exact hlt))
      have hzk := HZ.out k (by rw [HL.out]; exact hlt)
      have HS : Hid (mixN 7 (zs.take (k + 1)) = mix1 y (nth zs k)) := by show _ = _; rw [mixN_snoc (by rw [HL.out]; exact hlt), hy.out]
      obtain ⟨hy0, hy1⟩ : 0 ≤ y ∧ y ≤ 2147483646 := by rw [← hy.out]; exact mixN_bd _ _ (by omega) (by omega)
      generalize nth zs k = z at hr hzk HS
      obtain ⟨hz0, hz1⟩ := hzk
      have hlt' : (k : Int) < (n : Int) := by omega
      have i1 : IntKind.i64.wrap (48271 * y) = 48271 * y := IntWalk.i64_in _ (by omega)
      have i2 : IntKind.i64.wrap (48271 * y + z) = 48271 * y + z := IntWalk.i64_in _ (by omega)
      have i3 : IntKind.i64.wrap (48271 * y + z + 1) = 48271 * y + z + 1 := IntWalk.i64_in _ (by omega)
      have ht := mix1_tmod hy0 hz0
      have i4 : IntKind.i64.wrap (mix1 y z) = mix1 y z := IntWalk.i64_in _ (by have := mix1_bd y z; omega)
      clear R
      go_wp2_with fail
      refine wp_region_after (by kernel_rfl) (by kernel_rfl) ?_
      repeat (first | go_big_quiet_step ((go_at_call 206; exact after_same (l3M_any _))) | quiet_step ((go_at_call 206; exact after_same (l3M_any _))))
      refine wpQuiet_nil ?_
      intro p
      clear i1 i2 i3 i4 ht
      go_wp2
      go_roundw
      case rel => exact ⟨k + 1, mix1 y z, by omega, by go_num, rfl, HS.out, bel_trans E p.bel⟩
      case measure => simp [intOf]; omega
    · have hz := HL.out
      have HE : Hid (mixN 7 zs = y) := by show _ = _; rw [← hy.out, List.take_of_length_le (by omega)]
      clear hz
      go_wp2
      go_ret
      exact ⟨by rw [HE.out]; rfl, E⟩

set_option maxHeartbeats 400000 in
theorem specDigest_any (ck ch ct cq cv : Int) (w : World) :
    Calls Tryz.prog 222 #[.agg #[.int .i64 ck, .int .i64 ch, .int .i64 ct, .int .i64 cq, .int .i64 cv]] w fun e w' => e = .returned (.int .i64 (digN ck ch ct cq cv)) ∧ Below w.heap.size w w' := by
  have D := Box.new w 180 #[.int .i64 ck, .int .i64 ch, .int .i64 ct, .int .i64 cq, .int .i64 cv]
  have hb0 := bel_alloc w (.cells #[.int .i64 ck, .int .i64 ch, .int .i64 ct, .int .i64 cq, .int .i64 cv] 180)
  go_enter Tryz.func222, Tryz.ntmps222
  go_wp2_with fail
  generalize (w.alloc _ : World) = w0 at hb0 D ⊢
  refine (specClaim_any ck ch ct cq cv w0).mono ?_
  rintro e w1 ⟨rfl, hb1⟩
  have D1 := D.later hb1 D.lt
  have E1 := bel_trans hb0 hb1
  clear D hb0 hb1
  rcases h1 : clB ck ch ct cq cv with _ | _
  · have e := Lib.hid (digN_no h1)
    go_wp2
    go_ret
    exact ⟨by rw [e.out]; rfl, E1⟩
  have e := Lib.hid (digN_yes h1)
  have H1 := Lib.hid (mixable_claim h1)
  obtain ⟨d0, d1, d2, d3, d4⟩ := D1.five
  have R := Box.new w1 2 #[.int .i64 ck, .int .i64 ch, .int .i64 ct, .int .i64 cq, .int .i64 cv]
  have E3 := bel_trans E1 (bel_alloc w1 (.cells #[.int .i64 ck, .int .i64 ch, .int .i64 ct, .int .i64 cq, .int .i64 cv] 2))
  go_wp2_with fail
  generalize (w1.alloc _ : World) = w3 at R E3 ⊢
  refine (l3Mix_any w1.heap.size 5 [ck, ch, ct, cq, cv] w3 H1.out rfl (by omega) R).mono ?_
  rintro e w4 ⟨rfl, G⟩
  go_wp2
  go_ret
  exact ⟨by rw [e.out]; rfl, bel_trans E3 G⟩

end Go.Proofs.YtjdepjpjjgkmbaaGreat

/- What the functions of impl/l03_claim.go answer at every claim: contracts of each of them. -/
namespace Go.Proofs.YtjdepjpjjgkmbaaGreat
open Go.RowKit

set_option maxHeartbeats 400000 in
theorem claimOk_any (ck ch ct cq cv : Int) (w : World) :
    Calls Tryz.prog 253 #[.agg #[.int .i64 ck, .int .i64 ch, .int .i64 ct, .int .i64 cq, .int .i64 cv]] w fun e w' => e = .returned (.bool (clB ck ch ct cq cv)) ∧ Below w.heap.size w w' := by
  have D := Box.new w 180 #[.int .i64 ck, .int .i64 ch, .int .i64 ct, .int .i64 cq, .int .i64 cv]
  have hb0 := bel_alloc w (.cells #[.int .i64 ck, .int .i64 ch, .int .i64 ct, .int .i64 cq, .int .i64 cv] 180)
  rcases h1 : inB ck 1 2 with _ | _
  · have e := Lib.hid (clB_1 h1 ch ct cq cv)
    go_enter Tryz.func253, Tryz.ntmps253
    go_wp2_with (go_at_call 143; refine (within_any _ _ _ _).mono ?_; rintro e w' ⟨rfl, rfl⟩)
    go_ret
    exact ⟨by rw [e.out]; rfl, hb0⟩
  rcases h2 : inB ch 0 3 with _ | _
  · have e := Lib.hid (clB_2 h2 ck ct cq cv)
    go_enter Tryz.func253, Tryz.ntmps253
    go_wp2_with (go_at_call 143; refine (within_any _ _ _ _).mono ?_; rintro e w' ⟨rfl, rfl⟩)
    go_ret
    exact ⟨by rw [e.out]; rfl, hb0⟩
  rcases h3 : stB ct cq with _ | _
  · have e := Lib.hid (clB_3 h3 ck ch cv)
    go_enter Tryz.func253, Tryz.ntmps253
    go_wp2_with (first | (go_at_call 143; refine (within_any _ _ _ _).mono ?_; rintro e w' ⟨rfl, rfl⟩) | (go_at_call 114; refine (stampOk_any ct cq _).mono ?_; rintro e w1 ⟨rfl, hb1⟩))
    go_ret
    exact ⟨by rw [e.out]; rfl, bel_trans hb0 hb1⟩
  · have e := Lib.hid (clB_4 h1 h2 h3 cv)
    go_enter Tryz.func253, Tryz.ntmps253
    go_wp2_with (first | (go_at_call 143; refine (within_any _ _ _ _).mono ?_; rintro e w' ⟨rfl, rfl⟩) | (go_at_call 114; refine (stampOk_any ct cq _).mono ?_; rintro e w1 ⟨rfl, hb1⟩; obtain ⟨d0, d1, d2, d3, d4⟩ := (D.later hb1 D.lt).five))
    go_ret
    exact ⟨by rw [e.out]; rfl, bel_trans hb0 hb1⟩

/-- A mixer is made: a new variable that has 7. -/
theorem mixer_any (w : World) :
    Calls Tryz.prog 189 #[] w fun e w' => e = .returned (.func (.func 223) #[] #[.pointer (some ⟨w.heap.size, 0, none⟩)]) ∧ Box w' w.heap.size 2 #[.int .i64 7] ∧ Below w.heap.size w w' := by
  have D := Box.new w 2 #[.int .i64 7]
  go_enter Tryz.func189, Tryz.ntmps189
  go_wp2
  go_ret
  exact ⟨rfl, D, bel_alloc _ _⟩

set_option maxHeartbeats 400000 in
/-- Numbers are mixed into what a mixer has. -/
theorem mixIn_any (g b n : Nat) (zs : List Int) (x : Int) (w : World) (hx0 : 0 ≤ x) (hx1 : x ≤ 2147483646) (hz : mixable zs) (hl : zs.length = n) (hn : n ≤ 16)
    (hB : Box w g 2 #[.int .i64 x]) (hr : Box w b 2 (zs.map (Value.int .i64)).toArray) (hne : b ≠ g) :
    Calls Tryz.prog 223 #[.slice (some ⟨b, 0, none⟩) n n, .pointer (some ⟨g, 0, none⟩)] w fun e w' => e = .returned (.int .i64 (mixN x zs)) ∧ w.grownBy w' (some g) := by
  have HZ := Lib.hid hz
  have HL := Lib.hid hl
  have HX := Lib.hid (And.intro hx0 hx1)
  have HR := Lib.hid hr
  clear hz hl hr hx0 hx1
  go_enter Tryz.func223, Tryz.ntmps223
  go_wp2_with fail
  go_loopw [8] (fun i wr => ∃ (k : Nat) (y : Int), k ≤ n ∧ i = .int .i64 k ∧ Hid (mixN x (zs.take k) = y) ∧ Box wr g 2 #[.int .i64 y] ∧ w.grownBy wr (some g)) (fun i _ => n - (intOf i).toNat)
  case atStart => exact ⟨0, x, by omega, rfl, rfl, hB, grown_refl _ _⟩
  case round =>
    obtain ⟨k, y, hk, rfl, hy, Y, G⟩ := hrel
    have y0 := Y.cell 0
    have fy := Y.frozen
    by_cases hlt : k < n
    · have hr := (HR.out.kept G (by intro e; injection e with e; exact hne e.symm)).ints (i := k) (by rw [HL.out]; exact hlt)
      have hzk := HZ.out k (by rw [HL.out]; exact hlt)
      have HS : Hid (mixN x (zs.take (k + 1)) = mix1 y (nth zs k)) := by show _ = _; rw [mixN_snoc (by rw [HL.out]; exact hlt), hy.out]
      obtain ⟨hy0, hy1⟩ : 0 ≤ y ∧ y ≤ 2147483646 := by rw [← hy.out]; exact mixN_bd _ _ HX.out.1 HX.out.2
      generalize nth zs k = z at hr hzk HS
      obtain ⟨hz0, hz1⟩ := hzk
      go_wp2
      go_roundw
      case rel => exact ⟨k + 1, _, by omega, by go_num, HS.out, Y.set 0 (.int .i64 (mix1 y z)), grown_set G 0 _⟩
      case measure => simp [intOf]; omega
    · have hz := HL.out
      have HE : Hid (mixN x zs = y) := by show _ = _; rw [← hy.out, List.take_of_length_le (by omega)]
      clear hz
      go_wp2
      go_ret
      exact ⟨by rw [HE.out]; rfl, G⟩

set_option maxHeartbeats 400000 in
theorem digest_any (ck ch ct cq cv : Int) (w : World) :
    Calls Tryz.prog 254 #[.agg #[.int .i64 ck, .int .i64 ch, .int .i64 ct, .int .i64 cq, .int .i64 cv]] w fun e w' => e = .returned (.int .i64 (digN ck ch ct cq cv)) ∧ Below w.heap.size w w' := by
  have D := Box.new w 180 #[.int .i64 ck, .int .i64 ch, .int .i64 ct, .int .i64 cq, .int .i64 cv]
  have hb0 := bel_alloc w (.cells #[.int .i64 ck, .int .i64 ch, .int .i64 ct, .int .i64 cq, .int .i64 cv] 180)
  go_enter Tryz.func254, Tryz.ntmps254
  go_wp2_with fail
  generalize (w.alloc _ : World) = w0 at hb0 D ⊢
  refine (claimOk_any ck ch ct cq cv w0).mono ?_
  rintro e w1 ⟨rfl, hb1⟩
  have D1 := D.later hb1 D.lt
  have E1 := bel_trans hb0 hb1
  clear D hb0 hb1
  rcases h1 : clB ck ch ct cq cv with _ | _
  · have e := Lib.hid (digN_no h1)
    go_wp2
    go_ret
    exact ⟨by rw [e.out]; rfl, E1⟩
  have e := Lib.hid (digN_yes h1)
  have H1 := Lib.hid (mixable_claim h1)
  go_wp2_with fail
  refine (mixer_any w1).mono ?_
  rintro e w2 ⟨rfl, M, hb2⟩
  have D2 := D1.later hb2 D1.lt
  have E2 := bel_trans E1 hb2
  have hs := E1.size
  clear D1 hb2 E1
  obtain ⟨d0, d1, d2, d3, d4⟩ := D2.five
  have R := Box.new w2 2 #[.int .i64 ck, .int .i64 ch, .int .i64 ct, .int .i64 cq, .int .i64 cv]
  have M3 := M.alloc (.cells #[.int .i64 ck, .int .i64 ch, .int .i64 ct, .int .i64 cq, .int .i64 cv] 2)
  have E3 := bel_trans E2 (bel_alloc w2 (.cells #[.int .i64 ck, .int .i64 ch, .int .i64 ct, .int .i64 cq, .int .i64 cv] 2))
  have hne := Nat.ne_of_gt M.lt
  go_wp2_with fail
  generalize (w2.alloc _ : World) = w3 at R M3 E3 ⊢
  refine (mixIn_any w1.heap.size w2.heap.size 5 [ck, ch, ct, cq, cv] 7 w3 (by omega) (by omega) H1.out rfl (by omega) M3 R hne).mono ?_
  rintro e w4 ⟨rfl, G⟩
  go_wp2
  go_ret
  exact ⟨by rw [e.out]; rfl, bel_grown E3 G hs⟩

end Go.Proofs.YtjdepjpjjgkmbaaGreat

/- What SealOf and SealRight of impl/l03_claim.go answer at every group, claim and seal: contracts of each of them. -/
namespace Go.Proofs.YtjdepjpjjgkmbaaGreat
open Go.RowKit

/-- What a seal's making reads is as it was. -/
theorem sealKeep {w w' : World} {g gc b o : Nat} {tg tc : TypeId} {v0 v1 v2 v3 v4 u0 u1 u2 u3 u4 kv : Value} {r : Option Nat} (DG : Box w g tg #[v0, v1, v2, v3, v4]) (DC : Box w gc tc #[u0, u1, u2, u3, u4]) (hb : b < w.heap.size) (k : w.cell? ⟨b, o, none⟩ = some kv)
    (G : w.grownBy w' r) (h1 : r ≠ some g) (h2 : r ≠ some gc) (h3 : r ≠ some b) :
    w'.cell? ⟨g, 4, none⟩ = some v4 ∧ w'.cell? ⟨gc, 0, none⟩ = some u0 ∧ w'.cell? ⟨gc, 1, none⟩ = some u1 ∧ w'.cell? ⟨gc, 2, none⟩ = some u2 ∧ w'.cell? ⟨gc, 3, none⟩ = some u3 ∧ w'.cell? ⟨gc, 4, none⟩ = some u4 ∧ w'.cell? ⟨b, o, none⟩ = some kv :=
  ⟨(DG.kept G h1).cell 4, (DC.kept G h2).cell 0, (DC.kept G h2).cell 1, (DC.kept G h2).cell 2, (DC.kept G h2).cell 3, (DC.kept G h2).cell 4, (World.cell?_of_block (G.block b hb (fun e => h3 e.symm))).trans k⟩

/-- And so where two cells of another block are written. -/
theorem sealSet {w : World} {g gc b o q : Nat} {v4 u0 u1 u2 u3 u4 kv x y : Value}
    (K : w.cell? ⟨g, 4, none⟩ = some v4 ∧ w.cell? ⟨gc, 0, none⟩ = some u0 ∧ w.cell? ⟨gc, 1, none⟩ = some u1 ∧ w.cell? ⟨gc, 2, none⟩ = some u2 ∧ w.cell? ⟨gc, 3, none⟩ = some u3 ∧ w.cell? ⟨gc, 4, none⟩ = some u4 ∧ w.cell? ⟨b, o, none⟩ = some kv)
    (h1 : g ≠ q) (h2 : gc ≠ q) (h3 : b ≠ q) (w' : World) (hw : w' = (w.setCell ⟨q, 0, none⟩ x).setCell ⟨q, 1, none⟩ y) :
    w'.cell? ⟨g, 4, none⟩ = some v4 ∧ w'.cell? ⟨gc, 0, none⟩ = some u0 ∧ w'.cell? ⟨gc, 1, none⟩ = some u1 ∧ w'.cell? ⟨gc, 2, none⟩ = some u2 ∧ w'.cell? ⟨gc, 3, none⟩ = some u3 ∧ w'.cell? ⟨gc, 4, none⟩ = some u4 ∧ w'.cell? ⟨b, o, none⟩ = some kv := by
  have F : ∀ b o, b ≠ q → w'.cell? ⟨b, o, none⟩ = w.cell? ⟨b, o, none⟩ := fun b o h => by
    rw [hw, World.cell?_setCell_other _ _ _ _ (fun e => h (congrArg Addr.block e).symm), World.cell?_setCell_other _ _ _ _ (fun e => h (congrArg Addr.block e).symm)]
  simp only [F _ _ h1, F _ _ h2, F _ _ h3]
  exact K

set_option maxHeartbeats 1000000 in
theorem sealOf_any (s l c sh : Int) (A : Option Addr) (n cap : Nat) (zs : List Int) (ck ch ct cq cv x : Int) (w : World) (hm : n ≤ maxLen) (hr : Row w w.heap.size A n zs) :
    Calls Tryz.prog 247 #[.agg #[.int .i64 s, .int .i64 l, .int .i64 c, .int .i64 sh, .slice A n cap], .agg #[.int .i64 ck, .int .i64 ch, .int .i64 ct, .int .i64 cq, .int .i64 cv], .int .i64 x] w fun e w' => e = .returned (seV s l c sh zs ck ch ct cq cv x) ∧ Below w.heap.size w w' := by
  have HR := Lib.hid hr
  have HM := Lib.hid hm
  clear hr hm
  have DG := ((Box.new w 26 #[.int .i64 s, .int .i64 l, .int .i64 c, .int .i64 sh, .slice A n cap]).alloc (.cells #[.int .i64 ck, .int .i64 ch, .int .i64 ct, .int .i64 cq, .int .i64 cv] 180)).alloc (.cells #[.int .i64 0, .int .i64 0] 136)
  have DC := (Box.new (w.alloc (.cells #[.int .i64 s, .int .i64 l, .int .i64 c, .int .i64 sh, .slice A n cap] 26)) 180 #[.int .i64 ck, .int .i64 ch, .int .i64 ct, .int .i64 cq, .int .i64 cv]).alloc (.cells #[.int .i64 0, .int .i64 0] 136)
  have X := Box.new ((w.alloc (.cells #[.int .i64 s, .int .i64 l, .int .i64 c, .int .i64 sh, .slice A n cap] 26)).alloc (.cells #[.int .i64 ck, .int .i64 ch, .int .i64 ct, .int .i64 cq, .int .i64 cv] 180)) 136 #[.int .i64 0, .int .i64 0]
  have hb0 := bel_trans (bel_trans (bel_alloc w (.cells #[.int .i64 s, .int .i64 l, .int .i64 c, .int .i64 sh, .slice A n cap] 26)) (bel_alloc _ (.cells #[.int .i64 ck, .int .i64 ch, .int .i64 ct, .int .i64 cq, .int .i64 cv] 180))) (bel_alloc _ (.cells #[.int .i64 0, .int .i64 0] 136))
  simp only [World.size_alloc] at DC X
  go_enter Tryz.func247, Tryz.ntmps247
  go_wp2_with fail
  generalize (((w.alloc _).alloc _).alloc _ : World) = w0 at hb0 DG DC X ⊢
  refine (claimOk_any ck ch ct cq cv w0).mono ?_
  rintro e w1 ⟨rfl, hb1⟩
  have DG1 := DG.later hb1 DG.lt
  have DC1 := DC.later hb1 DC.lt
  have X1 := X.later hb1 X.lt
  have E1 := bel_trans hb0 hb1
  clear DG DC X hb0 hb1
  rcases h1 : clB ck ch ct cq cv with _ | _
  · have H := Lib.hid (seV_no (seB_1 h1 s l c sh zs x))
    obtain ⟨x0, x1⟩ := X1.two
    have fx := X1.frozen
    go_wp2
    exact bodyPost_ret (v := .tuple #[.agg #[.int .i64 0, .int .i64 0], .bool false]) (by simp [results, Tryz.results247, go_sem, x0, x1]) rfl ⟨by rw [H.out], (E1.setCell (by simp; omega) _).setCell (by simp; omega) _⟩
  obtain ⟨g0, g1, g2, g3, g4⟩ := DG1.five
  go_wp2_with fail
  refine (server_any s l c sh A n cap zs x w1 HM.out ((HR.out.below E1 (Nat.le_refl _)).more E1.size)).mono ?_
  rintro e w2 ⟨rfl, hb2⟩
  have DG2 := DG1.later hb2 DG1.lt
  have DC2 := DC1.later hb2 DC1.lt
  have X2 := X1.later hb2 X1.lt
  have E2 := bel_trans E1 hb2
  clear DG1 DC1 X1 E1 hb2 g0 g1 g2 g3 g4
  rcases h2 : srvB s l c sh zs x with _ | _
  · have H := Lib.hid (seV_no (seB_2 h2 ck ch ct cq cv))
    obtain ⟨x0, x1⟩ := X2.two
    have fx := X2.frozen
    go_wp2
    exact bodyPost_ret (v := .tuple #[.agg #[.int .i64 0, .int .i64 0], .bool false]) (by simp [results, Tryz.results247, go_sem, x0, x1]) rfl ⟨by rw [H.out], (E2.setCell (by simp; omega) _).setCell (by simp; omega) _⟩
  have H := Lib.hid (seV_yes (seB_3 h1 h2))
  have HX := Lib.hid (mixable_seal h1 h2)
  obtain ⟨hx0, hx9, hxn, hk1, hk2⟩ := srvB_key h2
  have hzn := HR.out.1
  rw [hzn] at hxn
  obtain ⟨b, o, hA, hbB, hcell⟩ := HR.out.2 (by omega)
  subst hA
  have hxk := hcell x.toNat hxn
  have hxi : x < (n : Int) := by omega
  go_wp2_with fail
  refine (mixer_any w2).mono ?_
  rintro e w3 ⟨rfl, M, hb3⟩
  have DG3 := DG2.later hb3 DG2.lt
  have DC3 := DC2.later hb3 DC2.lt
  have X3 := X2.later hb3 X2.lt
  have E3 := bel_trans E2 hb3
  have hs2 := E2.size
  have hxl := X2.lt
  clear DG2 DC2 X2 E2 hb3
  obtain ⟨g0, g1, g2, g3, g4⟩ := DG3.five
  obtain ⟨c0, c1, c2, c3, c4⟩ := DC3.five
  have k0 := (E3.cell (p := ⟨b, o + x.toNat, none⟩) hbB).trans hxk
  clear hcell hxk hzn
  have hbl : b < w3.heap.size := Nat.lt_of_lt_of_le hbB E3.size
  have hn1 : w.heap.size ≠ w.heap.size + 1 + 1 := by omega
  have hn2 : b ≠ w.heap.size + 1 + 1 := by omega
  have hn3 : w.heap.size + 1 ≠ w.heap.size + 1 + 1 := by omega
  go_wp2_with fail
  go_region_held3 (fun w' => w'.cell? ⟨w.heap.size, 4, none⟩ = some (.slice (some ⟨b, o, none⟩) n cap) ∧ w'.cell? ⟨w.heap.size + 1, 0, none⟩ = some (.int .i64 ck) ∧ w'.cell? ⟨w.heap.size + 1, 1, none⟩ = some (.int .i64 ch) ∧ w'.cell? ⟨w.heap.size + 1, 2, none⟩ = some (.int .i64 ct) ∧ w'.cell? ⟨w.heap.size + 1, 3, none⟩ = some (.int .i64 cq) ∧ w'.cell? ⟨w.heap.size + 1, 4, none⟩ = some (.int .i64 cv) ∧ w'.cell? ⟨b, o + x.toNat, none⟩ = some (.int .i64 (nth zs x.toNat))) (first | (with_reducible exact sealSet K6 hn1 hn3 hn2 _ rfl) | (with_reducible exact K6) | (with_reducible exact K5) | go_keep)
    (first
      | (go_at_call 254; refine (digest_any ck ch ct cq cv _).mono ?_; rintro e w5 ⟨rfl, hb5⟩; have F5 := bel_drew' hb5; have K5 := sealKeep DG3 DC3 hbl k0 (grown_bel F5 none) (by simp) (by simp) (by simp))
      | (go_at_call 223; refine (mixIn_any w2.heap.size w5.heap.size 3 [nth zs x.toNat, digN ck ch ct cq cv, x] 7 _ (by omega) (by omega) HX.out rfl (by omega) ?_ ?_ ?_).mono ?_; exact (M.later F5 M.lt).alloc _; exact Box.new w5 2 _; exact Nat.ne_of_gt (M.later F5 M.lt).lt; rintro e w6 ⟨rfl, G6⟩; have G7 := grown_trans (grown_alloc (grown_bel F5 (some w2.heap.size)) _) G6; have K6 := sealKeep DG3 DC3 hbl k0 G7 (by simp; omega) (by simp; omega) (by simp; omega); have X6 := X3.kept G7 (by simp; omega); have E6 := bel_grown E3 G7 hs2; clear G6; obtain ⟨x0, x1⟩ := X6.two; have fx := X6.frozen))
  go_wp2
  exact bodyPost_ret (v := .tuple #[.agg #[.int .i64 x, .int .i64 (tagN zs ck ch ct cq cv x)], .bool true]) (by simp [results, Tryz.results247, go_sem, x0, x1]; rfl) rfl ⟨by rw [H.out], (E6.setCell (by simp; omega) _).setCell (by simp; omega) _⟩

set_option maxHeartbeats 1000000 in
theorem sealRight_any (s l c sh : Int) (A : Option Addr) (n cap : Nat) (zs : List Int) (ck ch ct cq cv x t : Int) (w : World) (hm : n ≤ maxLen) (hr : Row w w.heap.size A n zs) :
    Calls Tryz.prog 244 #[.agg #[.int .i64 s, .int .i64 l, .int .i64 c, .int .i64 sh, .slice A n cap], .agg #[.int .i64 ck, .int .i64 ch, .int .i64 ct, .int .i64 cq, .int .i64 cv], .agg #[.int .i64 x, .int .i64 t]] w fun e w' => e = .returned (.bool (riB s l c sh zs ck ch ct cq cv x t)) ∧ Below w.heap.size w w' := by
  have HR := Lib.hid hr
  have HM := Lib.hid hm
  clear hr hm
  have X := Box.new ((w.alloc (.cells #[.int .i64 s, .int .i64 l, .int .i64 c, .int .i64 sh, .slice A n cap] 26)).alloc (.cells #[.int .i64 ck, .int .i64 ch, .int .i64 ct, .int .i64 cq, .int .i64 cv] 180)) 136 #[.int .i64 x, .int .i64 t]
  have hb0 := bel_trans (bel_trans (bel_alloc w (.cells #[.int .i64 s, .int .i64 l, .int .i64 c, .int .i64 sh, .slice A n cap] 26)) (bel_alloc _ (.cells #[.int .i64 ck, .int .i64 ch, .int .i64 ct, .int .i64 cq, .int .i64 cv] 180))) (bel_alloc _ (.cells #[.int .i64 x, .int .i64 t] 136))
  simp only [World.size_alloc] at X
  go_enter Tryz.func244, Tryz.ntmps244
  go_wp2_with fail
  generalize (((w.alloc _).alloc _).alloc _ : World) = w0 at hb0 X ⊢
  have C := sealOf_any s l c sh A n cap zs ck ch ct cq cv x w0 HM.out ((HR.out.below hb0 (Nat.le_refl _)).more hb0.size)
  rcases h : seB s l c sh zs ck ch ct cq cv x with _ | _
  · have e := Lib.hid (riB_no h t)
    rw [seV_no h] at C
    refine C.mono ?_
    rintro e w1 ⟨rfl, hb1⟩
    have E1 := bel_trans hb0 hb1
    go_wp2
    go_ret
    exact ⟨by rw [e.out]; rfl, bel_trans E1 (bel_alloc _ _)⟩
  · have e := Lib.hid (riB_yes h t)
    rw [seV_yes h] at C
    generalize tagN zs ck ch ct cq cv x = tg at C e
    refine C.mono ?_
    rintro e w1 ⟨rfl, hb1⟩
    have E1 := bel_trans hb0 hb1
    have X1 := X.later hb1 X.lt
    obtain ⟨x0, x1⟩ := X1.two
    have xl := X1.lt
    clear C X hb0 hb1
    by_cases ht : t = tg
    · subst ht
      go_wp2
      go_ret
      exact ⟨by rw [e.out]; simp, bel_trans E1 (bel_alloc _ _)⟩
    · have ht1 : (t == tg) = false := by simpa using ht
      have ht2 : (tg == t) = false := by simpa using fun e => ht e.symm
      have H := Lib.hid ht
      go_wp2
      go_ret
      exact ⟨by rw [e.out]; simp [H.out], bel_trans E1 (bel_alloc _ _)⟩

end Go.Proofs.YtjdepjpjjgkmbaaGreat

/- What SealOf and SealRight of spec/l03_claim.go answer at every group, claim and seal: contracts of each of them. -/
namespace Go.Proofs.YtjdepjpjjgkmbaaGreat
open Go.RowKit

set_option maxHeartbeats 1000000 in
theorem specSeal_any (s l c sh : Int) (A : Option Addr) (n cap : Nat) (zs : List Int) (ck ch ct cq cv x : Int) (w : World) (hm : n ≤ maxLen) (hr : Row w w.heap.size A n zs) :
    Calls Tryz.prog 184 #[.agg #[.int .i64 s, .int .i64 l, .int .i64 c, .int .i64 sh, .slice A n cap], .agg #[.int .i64 ck, .int .i64 ch, .int .i64 ct, .int .i64 cq, .int .i64 cv], .int .i64 x] w fun e w' => e = .returned (seV s l c sh zs ck ch ct cq cv x) ∧ Below w.heap.size w w' := by
  have HR := Lib.hid hr
  have HM := Lib.hid hm
  clear hr hm
  have DG := ((Box.new w 26 #[.int .i64 s, .int .i64 l, .int .i64 c, .int .i64 sh, .slice A n cap]).alloc (.cells #[.int .i64 ck, .int .i64 ch, .int .i64 ct, .int .i64 cq, .int .i64 cv] 180)).alloc (.cells #[.int .i64 0, .int .i64 0] 136)
  have DC := (Box.new (w.alloc (.cells #[.int .i64 s, .int .i64 l, .int .i64 c, .int .i64 sh, .slice A n cap] 26)) 180 #[.int .i64 ck, .int .i64 ch, .int .i64 ct, .int .i64 cq, .int .i64 cv]).alloc (.cells #[.int .i64 0, .int .i64 0] 136)
  have X := Box.new ((w.alloc (.cells #[.int .i64 s, .int .i64 l, .int .i64 c, .int .i64 sh, .slice A n cap] 26)).alloc (.cells #[.int .i64 ck, .int .i64 ch, .int .i64 ct, .int .i64 cq, .int .i64 cv] 180)) 136 #[.int .i64 0, .int .i64 0]
  have hb0 := bel_trans (bel_trans (bel_alloc w (.cells #[.int .i64 s, .int .i64 l, .int .i64 c, .int .i64 sh, .slice A n cap] 26)) (bel_alloc _ (.cells #[.int .i64 ck, .int .i64 ch, .int .i64 ct, .int .i64 cq, .int .i64 cv] 180))) (bel_alloc _ (.cells #[.int .i64 0, .int .i64 0] 136))
  simp only [World.size_alloc] at DC X
  go_enter Tryz.func184, Tryz.ntmps184
  go_wp2_with fail
  generalize (((w.alloc _).alloc _).alloc _ : World) = w0 at hb0 DG DC X ⊢
  refine (specClaim_any ck ch ct cq cv w0).mono ?_
  rintro e w1 ⟨rfl, hb1⟩
  have DG1 := DG.later hb1 DG.lt
  have DC1 := DC.later hb1 DC.lt
  have X1 := X.later hb1 X.lt
  have E1 := bel_trans hb0 hb1
  clear DG DC X hb0 hb1
  rcases h1 : clB ck ch ct cq cv with _ | _
  · have H := Lib.hid (seV_no (seB_1 h1 s l c sh zs x))
    obtain ⟨x0, x1⟩ := X1.two
    have fx := X1.frozen
    go_wp2
    exact bodyPost_ret (v := .tuple #[.agg #[.int .i64 0, .int .i64 0], .bool false]) (by simp [results, Tryz.results184, go_sem, x0, x1]) rfl ⟨by rw [H.out], (E1.setCell (by simp; omega) _).setCell (by simp; omega) _⟩
  obtain ⟨g0, g1, g2, g3, g4⟩ := DG1.five
  go_wp2_with fail
  refine (specServer_any s l c sh A n cap zs x w1 HM.out ((HR.out.below E1 (Nat.le_refl _)).more E1.size)).mono ?_
  rintro e w2 ⟨rfl, hb2⟩
  have DG2 := DG1.later hb2 DG1.lt
  have DC2 := DC1.later hb2 DC1.lt
  have X2 := X1.later hb2 X1.lt
  have E2 := bel_trans E1 hb2
  clear DG1 DC1 X1 E1 hb2 g0 g1 g2 g3 g4
  rcases h2 : srvB s l c sh zs x with _ | _
  · have H := Lib.hid (seV_no (seB_2 h2 ck ch ct cq cv))
    obtain ⟨x0, x1⟩ := X2.two
    have fx := X2.frozen
    go_wp2
    exact bodyPost_ret (v := .tuple #[.agg #[.int .i64 0, .int .i64 0], .bool false]) (by simp [results, Tryz.results184, go_sem, x0, x1]) rfl ⟨by rw [H.out], (E2.setCell (by simp; omega) _).setCell (by simp; omega) _⟩
  have H := Lib.hid (seV_yes (seB_3 h1 h2))
  have HX := Lib.hid (mixable_seal h1 h2)
  obtain ⟨hx0, hx9, hxn, hk1, hk2⟩ := srvB_key h2
  have hzn := HR.out.1
  rw [hzn] at hxn
  obtain ⟨b, o, hA, hbB, hcell⟩ := HR.out.2 (by omega)
  subst hA
  have hxk := hcell x.toNat hxn
  have hxi : x < (n : Int) := by omega
  have DG3 := DG2
  have DC3 := DC2
  have X3 := X2
  have E3 := E2
  have hs2 := E2.size
  have hxl := X2.lt
  clear DG2 DC2 X2 E2
  obtain ⟨g0, g1, g2, g3, g4⟩ := DG3.five
  obtain ⟨c0, c1, c2, c3, c4⟩ := DC3.five
  have k0 := (E3.cell (p := ⟨b, o + x.toNat, none⟩) hbB).trans hxk
  clear hcell hxk hzn
  have hbl : b < w2.heap.size := Nat.lt_of_lt_of_le hbB E3.size
  have hn1 : w.heap.size ≠ w.heap.size + 1 + 1 := by omega
  have hn2 : b ≠ w.heap.size + 1 + 1 := by omega
  have hn3 : w.heap.size + 1 ≠ w.heap.size + 1 + 1 := by omega
  go_wp2_with fail
  go_region_held3 (fun w' => w'.cell? ⟨w.heap.size, 4, none⟩ = some (.slice (some ⟨b, o, none⟩) n cap) ∧ w'.cell? ⟨w.heap.size + 1, 0, none⟩ = some (.int .i64 ck) ∧ w'.cell? ⟨w.heap.size + 1, 1, none⟩ = some (.int .i64 ch) ∧ w'.cell? ⟨w.heap.size + 1, 2, none⟩ = some (.int .i64 ct) ∧ w'.cell? ⟨w.heap.size + 1, 3, none⟩ = some (.int .i64 cq) ∧ w'.cell? ⟨w.heap.size + 1, 4, none⟩ = some (.int .i64 cv) ∧ w'.cell? ⟨b, o + x.toNat, none⟩ = some (.int .i64 (nth zs x.toNat))) (first | (with_reducible exact sealSet K6 hn1 hn3 hn2 _ rfl) | (with_reducible exact K6) | (with_reducible exact K5) | go_keep)
    (first
      | (go_at_call 222; refine (specDigest_any ck ch ct cq cv _).mono ?_; rintro e w5 ⟨rfl, hb5⟩; have F5 := bel_drew' hb5; have K5 := sealKeep DG3 DC3 hbl k0 (grown_bel F5 none) (by simp) (by simp) (by simp))
      | (go_at_call 188; refine (l3Mix_any w5.heap.size 3 [nth zs x.toNat, digN ck ch ct cq cv, x] _ HX.out rfl (by omega) ?_).mono ?_; exact Box.new w5 2 _; rintro e w6 ⟨rfl, hb6⟩; have F6 := bel_trans F5 (bel_trans (bel_alloc w5 _) hb6); have G7 := grown_bel F6 none; have K6 := sealKeep DG3 DC3 hbl k0 G7 (by simp) (by simp) (by simp); have X6 := X3.kept G7 (by simp); have E6 := bel_trans E3 F6; clear hb6; obtain ⟨x0, x1⟩ := X6.two; have fx := X6.frozen))
  go_wp2
  exact bodyPost_ret (v := .tuple #[.agg #[.int .i64 x, .int .i64 (tagN zs ck ch ct cq cv x)], .bool true]) (by simp [results, Tryz.results184, go_sem, x0, x1]; rfl) rfl ⟨by rw [H.out], (E6.setCell (by simp; omega) _).setCell (by simp; omega) _⟩

set_option maxHeartbeats 1000000 in
theorem specRight_any (s l c sh : Int) (A : Option Addr) (n cap : Nat) (zs : List Int) (ck ch ct cq cv x t : Int) (w : World) (hm : n ≤ maxLen) (hr : Row w w.heap.size A n zs) :
    Calls Tryz.prog 237 #[.agg #[.int .i64 s, .int .i64 l, .int .i64 c, .int .i64 sh, .slice A n cap], .agg #[.int .i64 ck, .int .i64 ch, .int .i64 ct, .int .i64 cq, .int .i64 cv], .agg #[.int .i64 x, .int .i64 t]] w fun e w' => e = .returned (.bool (riB s l c sh zs ck ch ct cq cv x t)) ∧ Below w.heap.size w w' := by
  have HR := Lib.hid hr
  have HM := Lib.hid hm
  clear hr hm
  have X := Box.new ((w.alloc (.cells #[.int .i64 s, .int .i64 l, .int .i64 c, .int .i64 sh, .slice A n cap] 26)).alloc (.cells #[.int .i64 ck, .int .i64 ch, .int .i64 ct, .int .i64 cq, .int .i64 cv] 180)) 136 #[.int .i64 x, .int .i64 t]
  have hb0 := bel_trans (bel_trans (bel_alloc w (.cells #[.int .i64 s, .int .i64 l, .int .i64 c, .int .i64 sh, .slice A n cap] 26)) (bel_alloc _ (.cells #[.int .i64 ck, .int .i64 ch, .int .i64 ct, .int .i64 cq, .int .i64 cv] 180))) (bel_alloc _ (.cells #[.int .i64 x, .int .i64 t] 136))
  simp only [World.size_alloc] at X
  go_enter Tryz.func237, Tryz.ntmps237
  go_wp2_with fail
  generalize (((w.alloc _).alloc _).alloc _ : World) = w0 at hb0 X ⊢
  have C := specSeal_any s l c sh A n cap zs ck ch ct cq cv x w0 HM.out ((HR.out.below hb0 (Nat.le_refl _)).more hb0.size)
  rcases h : seB s l c sh zs ck ch ct cq cv x with _ | _
  · have e := Lib.hid (riB_no h t)
    rw [seV_no h] at C
    refine C.mono ?_
    rintro e w1 ⟨rfl, hb1⟩
    have E1 := bel_trans hb0 hb1
    go_wp2
    go_ret
    exact ⟨by rw [e.out]; rfl, bel_trans E1 (bel_alloc _ _)⟩
  · have e := Lib.hid (riB_yes h t)
    rw [seV_yes h] at C
    generalize tagN zs ck ch ct cq cv x = tg at C e
    refine C.mono ?_
    rintro e w1 ⟨rfl, hb1⟩
    have E1 := bel_trans hb0 hb1
    have X1 := X.later hb1 X.lt
    obtain ⟨x0, x1⟩ := X1.two
    have xl := X1.lt
    clear C X hb0 hb1
    by_cases ht : t = tg
    · subst ht
      go_wp2
      go_ret
      exact ⟨by rw [e.out]; simp, bel_trans E1 (bel_alloc _ _)⟩
    · have ht1 : (t == tg) = false := by simpa using ht
      have ht2 : (tg == t) = false := by simpa using fun e => ht e.symm
      have H := Lib.hid ht
      go_wp2
      go_ret
      exact ⟨by rw [e.out]; simp [H.out], bel_trans E1 (bel_alloc _ _)⟩

end Go.Proofs.YtjdepjpjjgkmbaaGreat

/- Numbers of any size are mixed, as the program and as the model do it; conditions: how many they are. -/
namespace Go.Proofs.YtjdepjpjjgkmbaaGreat
open Go Go.RowKit

/-- What one more number makes of what is mixed: round the ends of int64. -/
def mixw (x z : Int) : Int := Int.tmod (wrap64 (wrap64 (48271 * x + z) + 1)) 2147483647
def mixW (x : Int) (zs : List Int) : Int := zs.foldl mixw x
/-- What a mixer can have. -/
def Bd (x : Int) : Prop := -2147483646 ≤ x ∧ x ≤ 2147483646
theorem mixw_bd (x z : Int) : Bd (mixw x z) := by
  unfold mixw Bd
  generalize wrap64 (wrap64 (48271 * x + z) + 1) = y
  have h1 := Int.tmod_lt_of_pos y (b := 2147483647) (by omega)
  have h2 := Int.tmod_lt_of_pos (-y) (b := 2147483647) (by omega)
  rw [Int.neg_tmod] at h2
  omega
theorem mixW_bd : ∀ (zs : List Int) (x : Int), Bd x → Bd (mixW x zs)
  | [], _, h => h
  | z :: zs, x, _ => mixW_bd zs (mixw x z) (mixw_bd x z)
theorem mixW_snoc {zs : List Int} {k : Nat} (h : k < zs.length) (x : Int) : mixW x (zs.take (k + 1)) = mixw (mixW x (zs.take k)) (nth zs k) := by
  unfold mixW
  rw [List.take_succ_eq_append_getElem h, List.foldl_append, List.foldl_cons, List.foldl_nil]
  simp [nth, h]
theorem mixW_app (x : Int) (a b : List Int) : mixW x (a ++ b) = mixW (mixW x a) b := List.foldl_append ..

set_option maxHeartbeats 400000 in
/-- Numbers are mixed into what a mixer has. -/
theorem mixInW_any (g b n : Nat) (zs : List Int) (x : Int) (w : World) (hx : Bd x) (hl : zs.length = n) (hn : n ≤ 16)
    (hB : Box w g 2 #[.int .i64 x]) (hr : Box w b 2 (zs.map (Value.int .i64)).toArray) (hne : b ≠ g) :
    Calls Tryz.prog 223 #[.slice (some ⟨b, 0, none⟩) n n, .pointer (some ⟨g, 0, none⟩)] w fun e w' => e = .returned (.int .i64 (mixW x zs)) ∧ Box w' g 2 #[.int .i64 (mixW x zs)] ∧ w.grownBy w' (some g) := by
  have HL := Lib.hid hl
  have HX := Lib.hid hx
  have HR := Lib.hid hr
  clear hl hr hx
  go_enter Tryz.func223, Tryz.ntmps223
  go_wp2_with fail
  go_loopw [8] (fun i wr => ∃ (k : Nat) (y : Int), k ≤ n ∧ i = .int .i64 k ∧ Hid (mixW x (zs.take k) = y) ∧ Box wr g 2 #[.int .i64 y] ∧ w.grownBy wr (some g)) (fun i _ => n - (intOf i).toNat)
  case atStart => exact ⟨0, x, by omega, rfl, rfl, hB, grown_refl _ _⟩
  case round =>
    obtain ⟨k, y, hk, rfl, hy, Y, G⟩ := hrel
    have y0 := Y.cell 0
    have fy := Y.frozen
    by_cases hlt : k < n
    · have hr := (HR.out.kept G (by intro e; injection e with e; exact hne e.symm)).ints (i := k) (by rw [HL.out]; exact hlt)
      have HS : Hid (mixW x (zs.take (k + 1)) = mixw y (nth zs k)) := by show _ = _; rw [mixW_snoc (by rw [HL.out]; exact hlt), hy.out]
      obtain ⟨hy0, hy1⟩ : Bd y := by rw [← hy.out]; exact mixW_bd _ _ HX.out
      generalize nth zs k = z at hr HS
      have i1 : IntKind.i64.wrap (48271 * y) = 48271 * y := IntWalk.i64_in _ (by omega)
      have i4 : IntKind.i64.wrap (mixw y z) = mixw y z := IntWalk.i64_in _ (by have := mixw_bd y z; unfold Bd at this; omega)
      go_wp2
      go_roundw
      case rel => exact ⟨k + 1, _, by omega, by go_num, HS.out, Y.set 0 (.int .i64 (mixw y z)), grown_set G 0 _⟩
      case measure => simp [intOf]; omega
    · have HE : Hid (mixW x zs = y) := by show _ = _; rw [← hy.out, List.take_of_length_le (by rw [HL.out]; omega)]
      go_wp2
      go_ret
      exact ⟨by rw [HE.out]; rfl, by rw [HE.out]; exact Y, G⟩

/-- The numbers of pairs, one behind the other. -/
def flatI (ps : List (Int × Int)) : List Int := ps.flatMap fun p => [p.1, p.2]
theorem flatI_len (ps : List (Int × Int)) : (flatI ps).length = ps.length * 2 := by
  induction ps with
  | nil => rfl
  | cons p ps ih => show (flatI ps).length + 1 + 1 = _; rw [ih, List.length_cons]; omega
theorem flatI_snoc {ps : List (Int × Int)} {k : Nat} (h : k < ps.length) : flatI (ps.take (k + 1)) = flatI (ps.take k) ++ [(pth ps k).1, (pth ps k).2] := by
  rw [List.take_succ_eq_append_getElem h, ← pth_lt h]
  simp [flatI]
/-- What SumOf answers. -/
def sumN (r1 r2 r3 r4 r5 r6 r7 : Int) (ps : List (Int × Int)) : Int := mixW 7 ([r1, r2, r3, r4, r5, r6, r7] ++ flatI ps)
theorem bd7 : Bd 7 := by unfold Bd; omega
set_option maxHeartbeats 400000 in
theorem l3MixW_any (A : Option Addr) (n cap : Nat) (zs : List Int) (w : World) (hn : n ≤ 16777216) (hr : Row w w.heap.size A n zs) :
    Calls Tryz.prog 188 #[.slice A n cap] w fun e w' => e = .returned (.int .i64 (mixW 7 zs)) ∧ Below w.heap.size w w' := by
  have HL := Lib.hid hr.1
  have HR := Lib.hid hr
  clear hr
  go_enter Tryz.func188, Tryz.ntmps188
  go_wp2_with fail
  go_loopw [3, 4] (fun a i wr => ∃ (k : Nat) (y : Int), k ≤ n ∧ i = .int .i64 k ∧ a = .int .i64 y ∧ Hid (mixW 7 (zs.take k) = y) ∧ Below w.heap.size w wr) (fun _ i _ => n - (intOf i).toNat)
  case atStart => exact ⟨0, 7, by omega, rfl, rfl, rfl, Below.refl _ _⟩
  case round =>
    obtain ⟨k, y, hk, rfl, rfl, hy, E⟩ := hrel
    by_cases hlt : k < n
    · obtain ⟨b, o, hA, hb, hc⟩ := (HR.out.below E (Nat.le_refl _)).2 (by omega)
      subst hA
      have hr := After.cell (a := ⟨b, o + k, none⟩) (Nat.lt_of_lt_of_le hb E.size) (hc k hlt)
      have HS : Hid (mixW 7 (zs.take (k + 1)) = mixw y (nth zs k)) := by show _ = _; rw [mixW_snoc (by rw [HL.out]; exact hlt), hy.out]
      obtain ⟨hy0, hy1⟩ : Bd y := by rw [← hy.out]; exact mixW_bd _ _ bd7
      clear hc
      generalize nth zs k = z at hr HS
      have hlt' : (k : Int) < (n : Int) := by omega
      have i1 : IntKind.i64.wrap (48271 * y) = 48271 * y := IntWalk.i64_in _ (by omega)
      have ht : Int.tmod (wrap64 (wrap64 (48271 * y + z) + 1)) 2147483647 = mixw y z := rfl
      have i4 : IntKind.i64.wrap (mixw y z) = mixw y z := IntWalk.i64_in _ (by have := mixw_bd y z; unfold Bd at this; omega)
      go_wp2_with fail
      refine wp_region_after (by kernel_rfl) (by kernel_rfl) ?_
      repeat (first | go_big_quiet_step ((go_at_call 206; exact after_same (l3M_any _))) | quiet_step ((go_at_call 206; exact after_same (l3M_any _))))
      refine wpQuiet_nil ?_
      intro p
      clear i1 i4 ht
      go_wp2
      go_roundw
      case rel => exact ⟨k + 1, mixw y z, by omega, by go_num, rfl, HS.out, bel_trans E p.bel⟩
      case measure => simp [intOf]; omega
    · have hz := HL.out
      have HE : Hid (mixW 7 zs = y) := by show _ = _; rw [← hy.out, List.take_of_length_le (by omega)]
      clear hz
      go_wp2
      go_ret
      exact ⟨by rw [HE.out]; rfl, E⟩

theorem Box.nine {w : World} {g : Nat} {t : TypeId} {v0 v1 v2 v3 v4 v5 v6 v7 v8 : Value} (h : Box w g t #[v0, v1, v2, v3, v4, v5, v6, v7, v8]) :
    w.cell? ⟨g, 0, none⟩ = some v0 ∧ w.cell? ⟨g, 1, none⟩ = some v1 ∧ w.cell? ⟨g, 2, none⟩ = some v2 ∧ w.cell? ⟨g, 3, none⟩ = some v3 ∧ w.cell? ⟨g, 4, none⟩ = some v4 ∧ w.cell? ⟨g, 5, none⟩ = some v5 ∧ w.cell? ⟨g, 6, none⟩ = some v6 ∧ w.cell? ⟨g, 7, none⟩ = some v7 ∧ w.cell? ⟨g, 8, none⟩ = some v8 :=
  ⟨h.cell 0, h.cell 1, h.cell 2, h.cell 3, h.cell 4, h.cell 5, h.cell 6, h.cell 7, h.cell 8⟩
end Go.Proofs.YtjdepjpjjgkmbaaGreat

/- The laws' own copies of a group, their size and the test that two are alike: contracts of each of them. -/
namespace Go.Proofs.YtjdepjpjjgkmbaaGreat
open Go.RowKit

theorem Tryz.infoInt64 : (Tryz.prog.info? 2).map (fun i => (i.zero, i.size, i.bytes)) = some (some (.int .i64 0), 1, 8) := by kernel_rfl

/-- The first k are copied. -/
def upto (zs : List Int) (k j : Nat) : Value := if j < k then .int .i64 (nth zs j) else .int .i64 0

theorem upto_succ {w : World} {b n k : Nat} {zs : List Int} (h : w.rowIs b 2 n (upto zs k)) :
    (w.setCell ⟨b, k, none⟩ (.int .i64 (nth zs k))).rowIs b 2 n (upto zs (k + 1)) :=
  (h.set k _).congr fun i _ => by
    unfold upto
    by_cases e : i = k
    · subst e; simp
    · by_cases f : i < k
      · simp [e, f, show i < k + 1 by omega]
      · simp [e, f, show ¬ i < k + 1 by omega]

theorem szInts_le (A : Option Addr) (n cap : Nat) (w : World) (hm : n ≤ 1048576) :
    Calls Tryz.prog 83 #[.slice A n cap, .int .i64 1048576] w fun e w' => e = .returned (.int .i64 (1048576 - n)) ∧ w = w' := by
  go_enter Tryz.func83, Tryz.ntmps83
  go_wp2
  go_ret
  exact ⟨rfl, rfl⟩
theorem szInts_gt (A : Option Addr) (n cap : Nat) (w : World) (hm : 1048576 < n) (hx : n ≤ maxLen) :
    Calls Tryz.prog 83 #[.slice A n cap, .int .i64 1048576] w fun e w' => e = .returned (.int .i64 (-1)) ∧ w = w' := by
  unfold maxLen at hx
  have h : (1048576 : Int) - n < 0 := by omega
  go_enter Tryz.func83, Tryz.ntmps83
  go_wp2
  go_ret
  exact ⟨rfl, rfl⟩

theorem szGroup_le (s l c sh : Int) (A : Option Addr) (n cap : Nat) (w : World) (hm : n ≤ 1048576) :
    Calls Tryz.prog 24 #[.agg #[.int .i64 s, .int .i64 l, .int .i64 c, .int .i64 sh, .slice A n cap], .int .i64 1048576] w fun e w' => e = .returned (.int .i64 (1048576 - n)) ∧ Below w.heap.size w w' := by
  go_enter Tryz.func24, Tryz.ntmps24
  go_wp2_with (go_at_call 83; refine (szInts_le A n cap _ hm).mono ?_; rintro e w' ⟨rfl, rfl⟩)
  go_ret
  exact ⟨rfl, bel_alloc _ _⟩
theorem szGroup_gt (s l c sh : Int) (A : Option Addr) (n cap : Nat) (w : World) (hm : 1048576 < n) (hx : n ≤ maxLen) :
    Calls Tryz.prog 24 #[.agg #[.int .i64 s, .int .i64 l, .int .i64 c, .int .i64 sh, .slice A n cap], .int .i64 1048576] w fun e w' => e = .returned (.int .i64 (-1)) ∧ Below w.heap.size w w' := by
  go_enter Tryz.func24, Tryz.ntmps24
  go_wp2_with (go_at_call 83; refine (szInts_gt A n cap _ hm hx).mono ?_; rintro e w' ⟨rfl, rfl⟩)
  go_ret
  exact ⟨rfl, bel_alloc _ _⟩

set_option maxHeartbeats 400000 in
theorem eqInts_same (A A' : Option Addr) (n cap cap' : Nat) (zs : List Int) (w : World) (hm : n ≤ 1048576) (hr : Row w w.heap.size A n zs) (hr' : Row w w.heap.size A' n zs) :
    Calls Tryz.prog 87 #[.slice A n cap, .slice A' n cap'] w fun e w' => e = .returned (.bool true) ∧ Below w.heap.size w w' := by
  have HR := Lib.hid hr
  have HR' := Lib.hid hr'
  clear hr hr'
  go_enter Tryz.func87, Tryz.ntmps87
  go_wp2_with fail
  go_loopw [5] (fun i wr => ∃ k : Nat, k ≤ n ∧ i = .int .i64 k ∧ Below w.heap.size w wr) (fun i _ => n - (intOf i).toNat)
  case atStart => exact ⟨0, Nat.zero_le _, rfl, Below.refl _ _⟩
  case round =>
    obtain ⟨k, hk, rfl, hb⟩ := hrel
    by_cases hlt : k < n
    · obtain ⟨b, o, hA, hbB, hcell⟩ := HR.out.2 (by omega)
      obtain ⟨b', o', hA', hbB', hcell'⟩ := HR'.out.2 (by omega)
      subst hA hA'
      have g := (hb.cell (p := ⟨b, o + k, none⟩) hbB).trans (hcell k hlt)
      have g' := (hb.cell (p := ⟨b', o' + k, none⟩) hbB').trans (hcell' k hlt)
      have hlt' : (k : Int) < (n : Int) := by omega
      clear hcell hcell'
      go_wp2_with fail
      go_quiet (fail)
      go_wp2
      go_roundw
      case rel => exact ⟨k + 1, by omega, by go_num, bel_drewN hb _⟩
      case measure => simp [intOf]; omega
    · go_wp2
      go_ret
      exact ⟨rfl, hb⟩

set_option maxHeartbeats 400000 in
theorem eqGroup_same (s l c sh : Int) (A A' : Option Addr) (n cap cap' : Nat) (zs : List Int) (w : World) (hm : n ≤ 1048576) (hr : Row w w.heap.size A n zs) (hr' : Row w w.heap.size A' n zs) :
    Calls Tryz.prog 28 #[.agg #[.int .i64 s, .int .i64 l, .int .i64 c, .int .i64 sh, .slice A n cap], .agg #[.int .i64 s, .int .i64 l, .int .i64 c, .int .i64 sh, .slice A' n cap']] w fun e w' => e = .returned (.bool true) ∧ Below w.heap.size w w' := by
  have HR := Lib.hid hr
  have HR' := Lib.hid hr'
  clear hr hr'
  go_enter Tryz.func28, Tryz.ntmps28
  go_wp2_with fail
  have hbW := bel_trans (bel_alloc w (.cells #[.int .i64 s, .int .i64 l, .int .i64 c, .int .i64 sh, .slice A n cap] 26)) (bel_alloc _ (.cells #[.int .i64 s, .int .i64 l, .int .i64 c, .int .i64 sh, .slice A' n cap'] 26))
  generalize ((w.alloc _).alloc _ : World) = W at hbW ⊢
  refine (eqInts_same A A' n cap cap' zs W hm ((HR.out.below hbW (Nat.le_refl _)).more hbW.size) ((HR'.out.below hbW (Nat.le_refl _)).more hbW.size)).mono ?_
  rintro e w1 ⟨rfl, hb1⟩
  go_wp2
  go_ret
  exact ⟨rfl, bel_trans hbW hb1⟩

end Go.Proofs.YtjdepjpjjgkmbaaGreat

/- The laws' own copies of a group whose keys can be written, and their marks: contracts of each of them. -/
namespace Go.Proofs.YtjdepjpjjgkmbaaGreat
open Go.RowKit

/-- What a copy of n numbers leaves: a new row that holds them, and that can be written. -/
def MadeRowF (w : World) (n : Nat) (zs : List Int) (e : Ending) (w' : World) : Prop :=
  ∃ g, w.heap.size ≤ g ∧ e = .returned (.slice (some ⟨g, 0, none⟩) n n) ∧ Row w' w'.heap.size (some ⟨g, 0, none⟩) n zs ∧ (∀ i, w'.frozen? ⟨g, i, none⟩ = false) ∧ g < w'.heap.size ∧ Below w.heap.size w w'

set_option maxHeartbeats 400000 in
theorem toInts_fr (A : Option Addr) (n cap : Nat) (zs : List Int) (w : World) (hm : n ≤ 1048576) (hr : Row w w.heap.size A n zs) :
    Calls Tryz.prog 85 #[.slice A n cap] w (MadeRowF w n zs) := by
  have hmk := fun W => run_make_row' (P := Tryz.prog) 24 2 (.int .i64 0) 8 Tryz.underlying24 Tryz.infoInt64 rfl .i64 .i64 n (by omega) (by omega) W
  have HR := Lib.hid hr
  clear hr
  go_enter Tryz.func85, Tryz.ntmps85
  go_wp2_with fail
  go_loopw [4] (fun i wr => ∃ k : Nat, k ≤ n ∧ i = .int .i64 k ∧ wr.rowIs w.heap.size 2 n (upto zs k) ∧ Below w.heap.size w wr) (fun i _ => n - (intOf i).toNat)
  case atStart => exact ⟨0, Nat.zero_le _, rfl, (World.rowIs_made w (.int .i64 0) n 2).congr (fun i _ => by simp [upto]), bel_alloc _ _⟩
  case round =>
    obtain ⟨k, hk, rfl, hrow, hb⟩ := hrel
    by_cases hlt : k < n
    · obtain ⟨b, o, hA, hbB, hcell⟩ := HR.out.2 (by omega)
      subst hA
      have g := (hb.cell (p := ⟨b, o + k, none⟩) hbB).trans (hcell k hlt)
      have g1 := hrow.cell hlt
      have g2 := hrow.frozen k
      have HS := Lib.hid (upto_succ hrow)
      have HB := Lib.hid (hb.setCell (p := ⟨w.heap.size, k, none⟩) (Nat.le_refl _) (.int .i64 (nth zs k)))
      clear hcell hrow hb
      go_wp2
      go_roundw
      case rel => exact ⟨k + 1, by omega, by go_num, HS.out, HB.out⟩
      case measure => simp [intOf]; omega
    · have hkn : k = n := by omega
      subst hkn
      have hz := HR.out.1
      go_wp2
      go_ret
      exact ⟨_, Nat.le_refl _, rfl, ⟨hz, fun _ => ⟨_, _, rfl, hrow.lt, fun i hi => by rw [Nat.zero_add, hrow.cell hi]; simp [upto, hi]⟩⟩, fun i => hrow.frozen i, hrow.lt, hb⟩

/-- A copy of a group: the same numbers, new keys, which can be written. -/
def MadeGroupF (w : World) (s l c sh : Int) (n : Nat) (zs : List Int) (e : Ending) (w' : World) : Prop :=
  ∃ g, w.heap.size ≤ g ∧ e = .returned (.agg #[.int .i64 s, .int .i64 l, .int .i64 c, .int .i64 sh, .slice (some ⟨g, 0, none⟩) n n]) ∧ Row w' w'.heap.size (some ⟨g, 0, none⟩) n zs ∧ (∀ i, w'.frozen? ⟨g, i, none⟩ = false) ∧ g < w'.heap.size ∧ Below w.heap.size w w'

set_option maxHeartbeats 400000 in
theorem toGroup_fr (s l c sh : Int) (A : Option Addr) (n cap : Nat) (zs : List Int) (w : World) (hm : n ≤ 1048576) (hr : Row w w.heap.size A n zs) :
    Calls Tryz.prog 26 #[.agg #[.int .i64 s, .int .i64 l, .int .i64 c, .int .i64 sh, .slice A n cap]] w (MadeGroupF w s l c sh n zs) := by
  have HR := Lib.hid hr
  clear hr
  go_enter Tryz.func26, Tryz.ntmps26
  go_wp2_with fail
  have B0 := Box.new w 47 #[.int .i64 s, .int .i64 l, .int .i64 c, .int .i64 sh, .slice A n cap]
  have B1 := Box.new (w.alloc (.cells #[.int .i64 s, .int .i64 l, .int .i64 c, .int .i64 sh, .slice A n cap] 47)) 26 #[.int .i64 0, .int .i64 0, .int .i64 0, .int .i64 0, .slice none 0 0]
  have B2 := Box.new ((w.alloc (.cells #[.int .i64 s, .int .i64 l, .int .i64 c, .int .i64 sh, .slice A n cap] 47)).alloc (.cells #[.int .i64 0, .int .i64 0, .int .i64 0, .int .i64 0, .slice none 0 0] 26)) 26 #[.int .i64 s, .int .i64 l, .int .i64 c, .int .i64 sh, .slice none 0 0]
  have B1' := B1.alloc (.cells #[.int .i64 s, .int .i64 l, .int .i64 c, .int .i64 sh, .slice none 0 0] 26)
  clear B0 B1
  simp only [World.size_alloc] at B1' B2
  have hbW : Below w.heap.size w (((w.alloc (.cells #[.int .i64 s, .int .i64 l, .int .i64 c, .int .i64 sh, .slice A n cap] 47)).alloc (.cells #[.int .i64 0, .int .i64 0, .int .i64 0, .int .i64 0, .slice none 0 0] 26)).alloc (.cells #[.int .i64 s, .int .i64 l, .int .i64 c, .int .i64 sh, .slice none 0 0] 26)) := bel_trans (bel_trans (bel_alloc _ _) (bel_alloc _ _)) (bel_alloc _ _)
  generalize (((w.alloc _).alloc _).alloc _ : World) = W at B1' B2 hbW ⊢
  refine (toInts_fr A n cap zs W hm ((HR.out.below hbW (Nat.le_refl _)).more hbW.size)).mono ?_
  rintro e w1 ⟨g, hg, rfl, hrow, hfz, hgl, hb1⟩
  replace hgl := Lib.hid hgl
  replace hfz := Lib.hid hfz
  have C1 := B1'.later hb1 B1'.lt
  have C2 := B2.later hb1 B2.lt
  have hbw := bel_trans hbW hb1
  have c10 : w1.cell? ⟨w.heap.size + 1, 0, none⟩ = some (.int .i64 0) := C1.cell 0
  have c11 : w1.cell? ⟨w.heap.size + 1, 1, none⟩ = some (.int .i64 0) := C1.cell 1
  have c12 : w1.cell? ⟨w.heap.size + 1, 2, none⟩ = some (.int .i64 0) := C1.cell 2
  have c13 : w1.cell? ⟨w.heap.size + 1, 3, none⟩ = some (.int .i64 0) := C1.cell 3
  have c14 : w1.cell? ⟨w.heap.size + 1, 4, none⟩ = some (.slice none 0 0) := C1.cell 4
  have c20 : w1.cell? ⟨w.heap.size + 1 + 1, 0, none⟩ = some (.int .i64 s) := C2.cell 0
  have c21 : w1.cell? ⟨w.heap.size + 1 + 1, 1, none⟩ = some (.int .i64 l) := C2.cell 1
  have c22 : w1.cell? ⟨w.heap.size + 1 + 1, 2, none⟩ = some (.int .i64 c) := C2.cell 2
  have c23 : w1.cell? ⟨w.heap.size + 1 + 1, 3, none⟩ = some (.int .i64 sh) := C2.cell 3
  have c24 : w1.cell? ⟨w.heap.size + 1 + 1, 4, none⟩ = some (.slice none 0 0) := C2.cell 4
  have f1 : ∀ i, w1.frozen? ⟨w.heap.size + 1, i, none⟩ = false := fun i => C1.frozen i
  have f2 : ∀ i, w1.frozen? ⟨w.heap.size + 1 + 1, i, none⟩ = false := fun i => C2.frozen i
  have hg1 := B1'.lt
  have hg2 := B2.lt
  have HF := Lib.hid ((((((hrow.set (p := ⟨w.heap.size + 1 + 1, 4, none⟩) (by simp; omega) (.slice (some ⟨g, 0, none⟩) n n)).set (p := ⟨w.heap.size + 1, 0, none⟩) (by simp; omega) (.int .i64 s)).set (p := ⟨w.heap.size + 1, 1, none⟩) (by simp; omega) (.int .i64 l)).set
    (p := ⟨w.heap.size + 1, 2, none⟩) (by simp; omega) (.int .i64 c)).set (p := ⟨w.heap.size + 1, 3, none⟩) (by simp; omega) (.int .i64 sh)).set (p := ⟨w.heap.size + 1, 4, none⟩) (by simp; omega) (.slice (some ⟨g, 0, none⟩) n n))
  have HB := Lib.hid ((((((hbw.setCell (p := ⟨w.heap.size + 1 + 1, 4, none⟩) (by simp; omega) (.slice (some ⟨g, 0, none⟩) n n)).setCell (p := ⟨w.heap.size + 1, 0, none⟩) (by simp) (.int .i64 s)).setCell (p := ⟨w.heap.size + 1, 1, none⟩) (by simp) (.int .i64 l)).setCell
    (p := ⟨w.heap.size + 1, 2, none⟩) (by simp) (.int .i64 c)).setCell (p := ⟨w.heap.size + 1, 3, none⟩) (by simp) (.int .i64 sh)).setCell (p := ⟨w.heap.size + 1, 4, none⟩) (by simp) (.slice (some ⟨g, 0, none⟩) n n))
  have HG : Hid (w.heap.size ≤ g) := Nat.le_trans hbW.size hg
  clear hrow hbw hb1 hg hbW B1' B2 C1 C2
  go_wp2
  exact bodyPost_ret (v := .agg #[.int .i64 s, .int .i64 l, .int .i64 c, .int .i64 sh, .slice (some ⟨g, 0, none⟩) n n]) (by simp [results, Tryz.results26, go_sem, c10, c11, c12, c13, c14]) rfl ⟨g, HG, rfl, HF, fun i => by simp [hfz.out i], by simp only [size_set]; exact hgl.out, HB⟩

theorem Row.write {w : World} {g n : Nat} {zs : List Int} (h : Row w w.heap.size (some ⟨g, 0, none⟩) n zs) (i : Nat) (k : Int) : Row (w.setCell ⟨g, i, none⟩ (.int .i64 k)) (w.setCell ⟨g, i, none⟩ (.int .i64 k)).heap.size (some ⟨g, 0, none⟩) n (zs.set i k) := by
  refine ⟨by simpa using h.1, fun hn => ?_⟩
  obtain ⟨b, o, hA, hb, hc⟩ := h.2 hn
  cases hA
  refine ⟨_, _, rfl, by rw [size_set]; exact hb, fun j hj => ?_⟩
  have hcj := hc j hj
  rw [Nat.zero_add] at hcj ⊢
  by_cases e : j = i
  · subst e
    rw [World.cell?_setCell_same _ _ _ hcj]
    simp [nth, h.1, hj]
  · rw [World.cell?_setCell_other _ _ _ _ (fun e' => e (by injection e' with _ e'; exact e'.symm)), hcj]
    simp [nth, show ¬ i = j by omega]

set_option maxHeartbeats 1000000 in
theorem markInts_is (g n cap : Nat) (k : Int) (zs : List Int) (w : World) (hn : n ≤ 4194304) (hk0 : 0 ≤ k) (hk1 : k ≤ 100000000) (hr : Row w w.heap.size (some ⟨g, 0, none⟩) n zs) (hf : ∀ i, w.frozen? ⟨g, i, none⟩ = false) :
    Calls Tryz.prog 91 #[.slice (some ⟨g, 0, none⟩) n cap, .int .i64 k] w fun e w' => e = .returned (.int .i64 (k + n)) ∧ w.grownBy w' (some g) := by
  have HR := Lib.hid hr
  have HF := Lib.hid hf
  clear hr hf
  go_enter Tryz.func91, Tryz.ntmps91
  go_wp2_with fail
  go_loopw [1, 5] (fun kv iv wr => ∃ (i : Nat) (k' : Int) (zs' : List Int), i ≤ n ∧ k + i = k' ∧ iv = .int .i64 i ∧ kv = .int .i64 k' ∧ Row wr wr.heap.size (some ⟨g, 0, none⟩) n zs' ∧ (∀ o, wr.frozen? ⟨g, o, none⟩ = false) ∧ w.grownBy wr (some g)) (fun _ i _ => n - (intOf i).toNat)
  case atStart => exact ⟨0, k, zs, Nat.zero_le _, by omega, rfl, rfl, HR.out, HF.out, grown_refl _ _⟩
  case round =>
    obtain ⟨i, k', zs', hi, hk', rfl, rfl, hrow, hfz, hg⟩ := hrel
    have hb : k' ≤ 200000000 := by omega
    have hb0 : 0 ≤ k' := by omega
    by_cases hlt : i < n
    · have hlt' : (i : Int) < (n : Int) := by omega
      obtain ⟨b, o, hA, hbB, hcell⟩ := hrow.2 (by omega)
      cases hA
      have c0 := hcell i hlt
      rw [Nat.zero_add] at c0
      have f0 := hfz i
      have HW := Lib.hid (hrow.write i k')
      have HFF := Lib.hid (show ∀ o, (wr.setCell ⟨g, i, none⟩ (.int .i64 k')).frozen? ⟨g, o, none⟩ = false from fun o => by simp [hfz o])
      have HG := Lib.hid (grown_set hg i (.int .i64 k'))
      replace hk' := Lib.hid hk'
      clear hcell hfz hrow hg
      go_wp2
      go_roundw
      case rel => exact ⟨i + 1, k' + 1, zs'.set i k', by omega, by have := hk'.out; omega, by go_num, rfl, HW.out, HFF.out, HG.out⟩
      case measure => simp [intOf]; omega
    · obtain rfl : i = n := by omega
      replace hk' := Lib.hid hk'
      go_wp2
      go_ret
      exact ⟨by rw [hk'.out]; rfl, hg⟩
theorem markGroup_is (s l c sh : Int) (g n cap : Nat) (k : Int) (zs : List Int) (w : World) (hn : n ≤ 4194304) (hk0 : 0 ≤ k) (hk1 : k ≤ 100000000) (hr : Row w w.heap.size (some ⟨g, 0, none⟩) n zs) (hf : ∀ i, w.frozen? ⟨g, i, none⟩ = false) (hg : g < w.heap.size) :
    Calls Tryz.prog 34 #[.agg #[.int .i64 s, .int .i64 l, .int .i64 c, .int .i64 sh, .slice (some ⟨g, 0, none⟩) n cap], .int .i64 k] w fun e w' => e = .returned (.int .i64 (k + n)) ∧ w.grownBy w' (some g) := by
  have E0 := bel_alloc w (.cells #[.int .i64 s, .int .i64 l, .int .i64 c, .int .i64 sh, .slice (some ⟨g, 0, none⟩) n cap] 26)
  have DG := Box.new w 26 #[.int .i64 s, .int .i64 l, .int .i64 c, .int .i64 sh, .slice (some ⟨g, 0, none⟩) n cap]
  have HR := Lib.hid ((hr.below E0 (Nat.le_refl _)).more E0.size)
  have HF := Lib.hid (show ∀ i, (w.alloc (.cells #[.int .i64 s, .int .i64 l, .int .i64 c, .int .i64 sh, .slice (some ⟨g, 0, none⟩) n cap] 26)).frozen? ⟨g, i, none⟩ = false from fun i => (E0.frozen (p := ⟨g, i, none⟩) hg).trans (hf i))
  clear hr hf
  obtain ⟨d0, d1, d2, d3, d4⟩ := DG.five
  go_enter Tryz.func34, Tryz.ntmps34
  go_wp2_with fail
  generalize (w.alloc _ : World) = w1 at E0 DG HR HF d0 d1 d2 d3 d4 ⊢
  refine (markInts_is g n cap k zs w1 hn hk0 hk1 HR.out HF.out).mono ?_
  rintro e w2 ⟨rfl, hg2⟩
  go_wp2
  go_ret
  exact ⟨rfl, grown_trans (grown_bel E0 _) hg2⟩

end Go.Proofs.YtjdepjpjjgkmbaaGreat

/- A record as data behind variables, and what the laws do with one: sizes, copies, comparisons, marks; conditions: the sizes. -/
namespace Go.Proofs.YtjdepjpjjgkmbaaGreat
open Go Go.RowKit

theorem nineAfter {w : World} {g : Nat} {t : TypeId} {v0 v1 v2 v3 v4 v5 v6 v7 v8 : Value} (h : Box w g t #[v0, v1, v2, v3, v4, v5, v6, v7, v8]) :
    (∀ p : After w, p.x.cell? ⟨g, 0, none⟩ = some v0) ∧ (∀ p : After w, p.x.cell? ⟨g, 1, none⟩ = some v1) ∧ (∀ p : After w, p.x.cell? ⟨g, 2, none⟩ = some v2) ∧ (∀ p : After w, p.x.cell? ⟨g, 3, none⟩ = some v3) ∧ (∀ p : After w, p.x.cell? ⟨g, 4, none⟩ = some v4) ∧ (∀ p : After w, p.x.cell? ⟨g, 5, none⟩ = some v5) ∧ (∀ p : After w, p.x.cell? ⟨g, 6, none⟩ = some v6) ∧ (∀ p : After w, p.x.cell? ⟨g, 7, none⟩ = some v7) ∧ (∀ p : After w, p.x.cell? ⟨g, 8, none⟩ = some v8) :=
  ⟨After.cell h.lt (h.cell 0), After.cell h.lt (h.cell 1), After.cell h.lt (h.cell 2), After.cell h.lt (h.cell 3), After.cell h.lt (h.cell 4), After.cell h.lt (h.cell 5), After.cell h.lt (h.cell 6), After.cell h.lt (h.cell 7), After.cell h.lt (h.cell 8)⟩

/-- A record's numbers. -/
structure RecD where
  r1 : Int
  r2 : Int
  r3 : Int
  r4 : Int
  r5 : Int
  r6 : Int
  r7 : Int
  ps : List (Int × Int)
  r8 : Int
def RecD.cells (d : RecD) (u : Value) : Array Value := #[.int .i64 d.r1, .int .i64 d.r2, .int .i64 d.r3, .int .i64 d.r4, .int .i64 d.r5, .int .i64 d.r6, .int .i64 d.r7, u, .int .i64 d.r8]
def RecD.sz (d : RecD) : Nat := d.ps.length
def RecD.mk8 (d : RecD) : Int := 2 * d.ps.length
/-- What SumOf answers. -/
def RecD.sum (d : RecD) : Int := sumN d.r1 d.r2 d.r3 d.r4 d.r5 d.r6 d.r7 d.ps
/-- A value reads as a record, through blocks of F alone; it is one's own. -/
def AtC (d : RecD) (w : World) (F : Nat → Prop) (v : Value) : Prop :=
  ∃ (A : Option Addr) (n cap : Nat), v = .agg (d.cells (.slice A n cap)) ∧ n ≤ maxLen ∧ PairsF w F A n d.ps
def LieC (d : RecD) (w : World) (F : Nat → Prop) (v : Value) : Prop := ∃ u, v = .agg (d.cells u) ∧ OwnP w F u d.ps
theorem keepsC (d : RecD) : Keeps (AtC d) := ⟨fun ⟨A, n, c, e, h1, h2⟩ ht hd => ⟨A, n, c, e, h1, h2.turn ht hd⟩, fun ⟨A, n, c, e, h1, h2⟩ hs => ⟨A, n, c, e, h1, h2.1, fun hn b o e => hs b (h2.2 hn b o e)⟩⟩
theorem keepsLC (d : RecD) : Keeps (LieC d) := ⟨fun ⟨u, e, h⟩ ht hd => ⟨u, e, h.turn ht hd⟩, fun ⟨u, e, h⟩ hs => ⟨u, e, h.sub hs⟩⟩
theorem LieC.at {d : RecD} {w : World} {F : Nat → Prop} {v : Value} (h : LieC d w F v) : AtC d w F v := by
  obtain ⟨u, e, h⟩ := h
  obtain ⟨A, cap, rfl, h1, h2, -⟩ := h.at
  exact ⟨A, _, cap, e, h1, h2⟩
theorem sizeC {d : RecD} {w : World} {F : Nat → Prop} {C : Array Value} (h : AtC d w F (.agg C)) : (Tryz.prog.info? 188).map (·.size) = some C.size ∧ (Tryz.prog.info? 46).map (·.size) = some C.size := by
  obtain ⟨A, n, cap, e, _⟩ := h
  injection e with e
  subst e
  exact ⟨by kernel_rfl, by kernel_rfl⟩
theorem oneC {d : RecD} {w : World} {F : Nat → Prop} {C : Array Value} (h : AtC d w F (.agg C)) : C.size = 9 ∧ C.all (·.oneCell') = true := by
  obtain ⟨A, n, cap, e, _⟩ := h
  injection e with e
  subst e
  exact ⟨rfl, by simp [RecD.cells, Value.oneCell']⟩

theorem szRec_le (r1 r2 r3 r4 r5 r6 r7 : Int) (L : Option Addr) (m mc : Nat) (r8 : Int) (K : Int) (w : World) (h1 : K ≤ 1048576) (hm : (m : Int) ≤ K) :
    Calls Tryz.prog 146 #[.agg #[.int .i64 r1, .int .i64 r2, .int .i64 r3, .int .i64 r4, .int .i64 r5, .int .i64 r6, .int .i64 r7, .slice L m mc, .int .i64 r8], .int .i64 K] w fun e w' => e = .returned (.int .i64 (K - m)) ∧ Below w.heap.size w w' := by
  have hn1 : ¬ (K : Int) - m < 0 := by omega
  have hb0 := bel_alloc w (.cells #[.int .i64 r1, .int .i64 r2, .int .i64 r3, .int .i64 r4, .int .i64 r5, .int .i64 r6, .int .i64 r7, .slice L m mc, .int .i64 r8] 188)
  go_enter Tryz.func146, Tryz.ntmps146
  go_wp2_with (go_at_call 30; refine (szSeals_le L m mc K _ h1 (by omega)).mono ?_; rintro e w1 ⟨rfl, rfl⟩)
  go_ret
  exact ⟨rfl, hb0⟩
theorem szRec_gt (r1 r2 r3 r4 r5 r6 r7 : Int) (L : Option Addr) (m mc : Nat) (r8 : Int) (K : Int) (w : World) (h0 : 0 ≤ K) (h1 : K ≤ 1048576) (hm : K < (m : Int)) (hx : m ≤ maxLen) :
    Calls Tryz.prog 146 #[.agg #[.int .i64 r1, .int .i64 r2, .int .i64 r3, .int .i64 r4, .int .i64 r5, .int .i64 r6, .int .i64 r7, .slice L m mc, .int .i64 r8], .int .i64 K] w fun e w' => e = .returned (.int .i64 (-1)) ∧ Below w.heap.size w w' := by
  have hb0 := bel_alloc w (.cells #[.int .i64 r1, .int .i64 r2, .int .i64 r3, .int .i64 r4, .int .i64 r5, .int .i64 r6, .int .i64 r7, .slice L m mc, .int .i64 r8] 188)
  have HX := Lib.hid hx
  clear hx
  go_enter Tryz.func146, Tryz.ntmps146
  go_wp2_with (go_at_call 30; refine (szSeals_gt L m mc K _ h0 h1 hm HX.out).mono ?_; rintro e w1 ⟨rfl, rfl⟩)
  go_ret
  exact ⟨rfl, hb0⟩

set_option maxHeartbeats 2000000 in
theorem eqRec_same (r1 r2 r3 r4 r5 r6 r7 : Int) (L : Option Addr) (m mc : Nat) (r8 : Int) (L' : Option Addr) (mc' : Nat) (ps : List (Int × Int)) (w : World) (hp : m ≤ 1048576) (h1 : Pairs w w.heap.size L m ps) (h2 : Pairs w w.heap.size L' m ps) :
    Calls Tryz.prog 148 #[.agg #[.int .i64 r1, .int .i64 r2, .int .i64 r3, .int .i64 r4, .int .i64 r5, .int .i64 r6, .int .i64 r7, .slice L m mc, .int .i64 r8], .agg #[.int .i64 r1, .int .i64 r2, .int .i64 r3, .int .i64 r4, .int .i64 r5, .int .i64 r6, .int .i64 r7, .slice L' m mc', .int .i64 r8]] w fun e w' => e = .returned (.bool true) ∧ Below w.heap.size w w' := by
  have D := (Box.new w 46 #[.int .i64 r1, .int .i64 r2, .int .i64 r3, .int .i64 r4, .int .i64 r5, .int .i64 r6, .int .i64 r7, .slice L m mc, .int .i64 r8]).alloc (.cells #[.int .i64 r1, .int .i64 r2, .int .i64 r3, .int .i64 r4, .int .i64 r5, .int .i64 r6, .int .i64 r7, .slice L' m mc', .int .i64 r8] 46)
  have X := Box.new (w.alloc (.cells #[.int .i64 r1, .int .i64 r2, .int .i64 r3, .int .i64 r4, .int .i64 r5, .int .i64 r6, .int .i64 r7, .slice L m mc, .int .i64 r8] 46)) 46 #[.int .i64 r1, .int .i64 r2, .int .i64 r3, .int .i64 r4, .int .i64 r5, .int .i64 r6, .int .i64 r7, .slice L' m mc', .int .i64 r8]
  have hb0 := bel_trans (bel_alloc w (.cells #[.int .i64 r1, .int .i64 r2, .int .i64 r3, .int .i64 r4, .int .i64 r5, .int .i64 r6, .int .i64 r7, .slice L m mc, .int .i64 r8] 46)) (bel_alloc _ (.cells #[.int .i64 r1, .int .i64 r2, .int .i64 r3, .int .i64 r4, .int .i64 r5, .int .i64 r6, .int .i64 r7, .slice L' m mc', .int .i64 r8] 46))
  simp only [World.size_alloc] at X
  have H1 := Lib.hid (h1.later hb0)
  have H2 := Lib.hid (h2.later hb0)
  clear h1 h2
  go_enter Tryz.func148, Tryz.ntmps148
  go_upto_region 1 with fail
  generalize ((w.alloc _).alloc _ : World) = w0 at D X hb0 H1 H2 ⊢
  obtain ⟨d0, d1, d2, d3, d4, d5, d6, d7, d8⟩ := D.nine
  obtain ⟨x0, x1, x2, x3, x4, x5, x6, x7, x8⟩ := X.nine
  go_wp2_with fail
  refine (eqStamp_same r5 r6 w0).mono ?_
  rintro e w1 ⟨rfl, hb1⟩
  have D1 := D.later hb1 D.lt
  have X1 := X.later hb1 X.lt
  have E1 := bel_trans hb0 hb1
  have H3 := Lib.hid (H1.out.later hb1)
  have H4 := Lib.hid (H2.out.later hb1)
  clear d0 d1 d2 d3 d4 d5 d6 d7 d8 x0 x1 x2 x3 x4 x5 x6 x7 x8 D X hb0 hb1 H1 H2
  obtain ⟨d0, d1, d2, d3, d4, d5, d6, d7, d8⟩ := D1.nine
  obtain ⟨x0, x1, x2, x3, x4, x5, x6, x7, x8⟩ := X1.nine
  clear d0 d1 d2 d3 d4 d5 d8 x0 x1 x2 x3 x4 x5 x8
  go_wp2_with fail
  refine (eqSeals_same L L' m mc mc' ps w1 hp H3.out H4.out).mono ?_
  rintro e w2 ⟨rfl, hb2⟩
  have D2 := D1.later hb2 D1.lt
  have X2 := X1.later hb2 X1.lt
  have E2 := bel_trans E1 hb2
  have d8 := D2.cell 8
  have x8 := X2.cell 8
  clear D1 X1 E1 hb2 H3 H4 d6 d7 x6 x7
  go_wp2
  go_ret
  exact ⟨rfl, E2⟩

/-- A record's variable, and what is written into it. -/
theorem Box.setR {w : World} {g : Nat} {t : TypeId} {v0 v1 v2 v3 v4 v5 v6 v7 v8 : Value} (h : Box w g t #[v0, v1, v2, v3, v4, v5, v6, v7, v8]) (u0 u1 u2 u3 : Value) : Box ((((w.setCell ⟨g, 0, none⟩ u0).setCell ⟨g, 1, none⟩ u1).setCell ⟨g, 2, none⟩ u2).setCell ⟨g, 3, none⟩ u3) g t #[u0, u1, u2, u3, v4, v5, v6, v7, v8] :=
  (((h.set 0 u0).set 1 u1).set 2 u2).set 3 u3
theorem Box.farR {w : World} {g R : Nat} {t : TypeId} {cs : Array Value} (h : Box w g t cs) (hR : R ≠ g) (u0 u1 u2 u3 : Value) : Box ((((w.setCell ⟨R, 0, none⟩ u0).setCell ⟨R, 1, none⟩ u1).setCell ⟨R, 2, none⟩ u2).setCell ⟨R, 3, none⟩ u3) g t cs :=
  (((h.far (p := ⟨R, 0, none⟩) hR u0).far (p := ⟨R, 1, none⟩) hR u1).far (p := ⟨R, 2, none⟩) hR u2).far (p := ⟨R, 3, none⟩) hR u3
theorem bel_farR {w wr : World} {R : Nat} (h : Below w.heap.size w wr) (hR : w.heap.size ≤ R) (u0 u1 u2 u3 : Value) : Below w.heap.size w ((((wr.setCell ⟨R, 0, none⟩ u0).setCell ⟨R, 1, none⟩ u1).setCell ⟨R, 2, none⟩ u2).setCell ⟨R, 3, none⟩ u3) :=
  (((h.setCell (p := ⟨R, 0, none⟩) hR u0).setCell (p := ⟨R, 1, none⟩) hR u1).setCell (p := ⟨R, 2, none⟩) hR u2).setCell (p := ⟨R, 3, none⟩) hR u3

set_option maxRecDepth 100000 in
set_option maxHeartbeats 4000000 in
theorem toRec_any (r1 r2 r3 r4 r5 r6 r7 : Int) (L : Option Addr) (m mc : Nat) (r8 : Int) (ps : List (Int × Int)) (w : World) (hp : m ≤ 1048576) (h1 : Pairs w w.heap.size L m ps) :
    Calls Tryz.prog 147 #[.agg #[.int .i64 r1, .int .i64 r2, .int .i64 r3, .int .i64 r4, .int .i64 r5, .int .i64 r6, .int .i64 r7, .slice L m mc, .int .i64 r8]] w fun e w' => ∃ g, w.heap.size ≤ g ∧ e = .returned (.agg #[.int .i64 r1, .int .i64 r2, .int .i64 r3, .int .i64 r4, .int .i64 r5, .int .i64 r6, .int .i64 r7, .slice (some ⟨g, 0, none⟩) m m, .int .i64 r8]) ∧ Held w' g ps ∧ Below w.heap.size w w' := by
  have D := ((Box.new w 188 #[.int .i64 r1, .int .i64 r2, .int .i64 r3, .int .i64 r4, .int .i64 r5, .int .i64 r6, .int .i64 r7, .slice L m mc, .int .i64 r8]).alloc (.cells #[.int .i64 0, .int .i64 0, .int .i64 0, .int .i64 0, .int .i64 0, .int .i64 0, .int .i64 0, .slice none 0 0, .int .i64 0] 46)).alloc (.cells #[.int .i64 0, .int .i64 0, .int .i64 0, .int .i64 0, .int .i64 0, .int .i64 0, .int .i64 0, .slice none 0 0, .int .i64 0] 46)
  have X := (Box.new (w.alloc (.cells #[.int .i64 r1, .int .i64 r2, .int .i64 r3, .int .i64 r4, .int .i64 r5, .int .i64 r6, .int .i64 r7, .slice L m mc, .int .i64 r8] 188)) 46 #[.int .i64 0, .int .i64 0, .int .i64 0, .int .i64 0, .int .i64 0, .int .i64 0, .int .i64 0, .slice none 0 0, .int .i64 0]).alloc (.cells #[.int .i64 0, .int .i64 0, .int .i64 0, .int .i64 0, .int .i64 0, .int .i64 0, .int .i64 0, .slice none 0 0, .int .i64 0] 46)
  have Y := Box.new ((w.alloc (.cells #[.int .i64 r1, .int .i64 r2, .int .i64 r3, .int .i64 r4, .int .i64 r5, .int .i64 r6, .int .i64 r7, .slice L m mc, .int .i64 r8] 188)).alloc (.cells #[.int .i64 0, .int .i64 0, .int .i64 0, .int .i64 0, .int .i64 0, .int .i64 0, .int .i64 0, .slice none 0 0, .int .i64 0] 46)) 46 #[.int .i64 0, .int .i64 0, .int .i64 0, .int .i64 0, .int .i64 0, .int .i64 0, .int .i64 0, .slice none 0 0, .int .i64 0]
  have hb0 := bel_trans (bel_trans (bel_alloc w (.cells #[.int .i64 r1, .int .i64 r2, .int .i64 r3, .int .i64 r4, .int .i64 r5, .int .i64 r6, .int .i64 r7, .slice L m mc, .int .i64 r8] 188)) (bel_alloc _ (.cells #[.int .i64 0, .int .i64 0, .int .i64 0, .int .i64 0, .int .i64 0, .int .i64 0, .int .i64 0, .slice none 0 0, .int .i64 0] 46))) (bel_alloc _ (.cells #[.int .i64 0, .int .i64 0, .int .i64 0, .int .i64 0, .int .i64 0, .int .i64 0, .int .i64 0, .slice none 0 0, .int .i64 0] 46))
  simp only [World.size_alloc] at X Y
  have H1 := Lib.hid h1
  clear h1
  go_enter Tryz.func147, Tryz.ntmps147
  go_upto_region 2 with fail
  generalize (((w.alloc _).alloc _).alloc _ : World) = w0 at hb0 D X Y ⊢
  obtain ⟨d0, d1, d2, d3, d4, d5, d6, d7, d8⟩ := D.nine
  obtain ⟨y0, y1, y2, y3, y4, y5, y6, y7, y8⟩ := Y.nine
  have fy := Y.frozen
  have hn1 : w.heap.size + 1 + 1 ≠ w.heap.size := by omega
  have hn2 : w.heap.size + 1 + 1 ≠ w.heap.size + 1 := by omega
  have hn3 : w.heap.size ≤ w.heap.size + 1 + 1 := by omega
  have D1 := D.farR hn1 (.int .i64 r1) (.int .i64 r2) (.int .i64 r3) (.int .i64 r4)
  have X1 := X.farR hn2 (.int .i64 r1) (.int .i64 r2) (.int .i64 r3) (.int .i64 r4)
  have Y1 := Y.setR (.int .i64 r1) (.int .i64 r2) (.int .i64 r3) (.int .i64 r4)
  have E1 := bel_farR hb0 hn3 (.int .i64 r1) (.int .i64 r2) (.int .i64 r3) (.int .i64 r4)
  replace D1 := Lib.hid D1
  replace X1 := Lib.hid X1
  replace Y1 := Lib.hid Y1
  replace E1 := Lib.hid E1
  go_wp2_with fail
  clear d0 d1 d2 d3 d4 d5 d6 d7 d8 y0 y1 y2 y3 y4 y5 y6 y7 y8 fy D X Y hb0
  generalize ((((w0.setCell _ _).setCell _ _).setCell _ _).setCell _ _ : World) = w1 at D1 X1 Y1 E1 ⊢
  refine (toStamp_any r5 r6 w1).mono ?_
  rintro e w2 ⟨rfl, hb2⟩
  have D2 := D1.out.later hb2 D1.out.lt
  have X2 := X1.out.later hb2 X1.out.lt
  have Y2 := Y1.out.later hb2 Y1.out.lt
  have E2 := bel_trans E1.out hb2
  clear D1 X1 Y1 E1 hb2
  obtain ⟨d0, d1, d2, d3, d4, d5, d6, d7, d8⟩ := D2.nine
  obtain ⟨y0, y1, y2, y3, y4, y5, y6, y7, y8⟩ := Y2.nine
  have fy := Y2.frozen
  have D3 := Lib.hid (((D2.far (p := ⟨w.heap.size + 1 + 1, 4, none⟩) hn1 (.int .i64 r5)).far (p := ⟨w.heap.size + 1 + 1, 5, none⟩) hn1 (.int .i64 r6)).far (p := ⟨w.heap.size + 1 + 1, 6, none⟩) hn1 (.int .i64 r7))
  have X3 := Lib.hid (((X2.far (p := ⟨w.heap.size + 1 + 1, 4, none⟩) hn2 (.int .i64 r5)).far (p := ⟨w.heap.size + 1 + 1, 5, none⟩) hn2 (.int .i64 r6)).far (p := ⟨w.heap.size + 1 + 1, 6, none⟩) hn2 (.int .i64 r7))
  have Y3 := Lib.hid (((Y2.set 4 (.int .i64 r5)).set 5 (.int .i64 r6)).set 6 (.int .i64 r7))
  have E3 := Lib.hid (((E2.setCell (p := ⟨w.heap.size + 1 + 1, 4, none⟩) hn3 (.int .i64 r5)).setCell (p := ⟨w.heap.size + 1 + 1, 5, none⟩) hn3 (.int .i64 r6)).setCell (p := ⟨w.heap.size + 1 + 1, 6, none⟩) hn3 (.int .i64 r7))
  go_wp2_with fail
  clear d0 d1 d2 d3 d4 d5 d6 d7 d8 y0 y1 y2 y3 y4 y5 y6 y7 y8 fy D2 X2 Y2 E2
  generalize (((w2.setCell _ _).setCell _ _).setCell _ _ : World) = w3 at D3 X3 Y3 E3 ⊢
  refine (toSeals_any L m mc ps w3 hp (H1.out.later E3.out)).mono ?_
  rintro e w4 ⟨g, hg, rfl, _, hh, hb4⟩
  have D4 := D3.out.later hb4 D3.out.lt
  have X4 := X3.out.later hb4 X3.out.lt
  have Y4 : Box w4 (w.heap.size + 1 + 1) 46 #[.int .i64 r1, .int .i64 r2, .int .i64 r3, .int .i64 r4, .int .i64 r5, .int .i64 r6, .int .i64 r7, .slice none 0 0, .int .i64 0] := Y3.out.later hb4 Y3.out.lt
  have E4 := bel_trans E3.out hb4
  have hYl := Y3.out.lt
  have hg1 : w.heap.size ≤ g := Nat.le_trans E3.out.size hg
  have hgY : w.heap.size + 1 + 1 < g := by omega
  clear D3 X3 Y3 E3 hb4
  obtain ⟨d0, d1, d2, d3, d4, d5, d6, d7, d8⟩ := D4.nine
  obtain ⟨y0, y1, y2, y3, y4, y5, y6, y7, y8⟩ := Y4.nine
  obtain ⟨x0, x1, x2, x3, x4, x5, x6, x7, x8⟩ := X4.nine
  have fy := Y4.frozen
  have fx := X4.frozen
  have HH := Lib.hid hh
  clear d0 d1 d2 d3 d4 d5 d6 d7 hh
  go_wp2
  exact bodyPost_ret (v := .agg #[.int .i64 r1, .int .i64 r2, .int .i64 r3, .int .i64 r4, .int .i64 r5, .int .i64 r6, .int .i64 r7, .slice (some ⟨g, 0, none⟩) m m, .int .i64 r8]) (by simp [results, Tryz.results147, go_sem, x0, x1, x2, x3, x4, x5, x6, x7, x8]) rfl ⟨g, hg1, rfl, by
    repeat (first | (with_reducible exact HH.out) | refine HeldK.far ?_ (by omega) _ _), by
    repeat (first | (with_reducible exact E4) | refine Below.setCell ?_ (by simp; try omega) _)⟩
end Go.Proofs.YtjdepjpjjgkmbaaGreat

/- SumOf of the program and of the model at every record; conditions: how many seals it has. -/
namespace Go.Proofs.YtjdepjpjjgkmbaaGreat
open Go Go.RowKit

set_option maxRecDepth 100000 in
set_option maxHeartbeats 2000000 in
theorem sumOf_is (r1 r2 r3 r4 r5 r6 r7 : Int) (L : Option Addr) (m mc : Nat) (r8 : Int) (ps : List (Int × Int)) (w : World) (hm : m ≤ 4194304) (hr : Pairs w w.heap.size L m ps) :
    Calls Tryz.prog 142 #[.agg #[.int .i64 r1, .int .i64 r2, .int .i64 r3, .int .i64 r4, .int .i64 r5, .int .i64 r6, .int .i64 r7, .slice L m mc, .int .i64 r8]] w fun e w' => e = .returned (.int .i64 (sumN r1 r2 r3 r4 r5 r6 r7 ps)) ∧ Below w.heap.size w w' := by
  have D := Box.new w 46 #[.int .i64 r1, .int .i64 r2, .int .i64 r3, .int .i64 r4, .int .i64 r5, .int .i64 r6, .int .i64 r7, .slice L m mc, .int .i64 r8]
  have hb0 := bel_alloc w (.cells #[.int .i64 r1, .int .i64 r2, .int .i64 r3, .int .i64 r4, .int .i64 r5, .int .i64 r6, .int .i64 r7, .slice L m mc, .int .i64 r8] 46)
  have HR := Lib.hid hr
  have HL := Lib.hid hr.1
  clear hr
  go_enter Tryz.func142, Tryz.ntmps142
  go_wp2_with fail
  generalize (w.alloc _ : World) = w0 at D hb0 ⊢
  refine (mixer_any w0).mono ?_
  rintro e w1 ⟨rfl, M, hb1⟩
  have D1 := D.later hb1 D.lt
  have E1 := bel_trans hb0 hb1
  have hg := hb0.size
  have hDg := D.lt
  generalize w0.heap.size = g at M hg hDg ⊢
  clear D hb0 hb1
  obtain ⟨d0, d1, d2, d3, d4, d5, d6, d7, d8⟩ := D1.nine
  have R := Box.new w1 2 #[.int .i64 r1, .int .i64 r2, .int .i64 r3, .int .i64 r4, .int .i64 r5, .int .i64 r6, .int .i64 r7]
  have M3 := M.alloc (.cells #[.int .i64 r1, .int .i64 r2, .int .i64 r3, .int .i64 r4, .int .i64 r5, .int .i64 r6, .int .i64 r7] 2)
  have D3 := D1.alloc (.cells #[.int .i64 r1, .int .i64 r2, .int .i64 r3, .int .i64 r4, .int .i64 r5, .int .i64 r6, .int .i64 r7] 2)
  have E3 := bel_trans E1 (bel_alloc w1 (.cells #[.int .i64 r1, .int .i64 r2, .int .i64 r3, .int .i64 r4, .int .i64 r5, .int .i64 r6, .int .i64 r7] 2))
  have hne := Nat.ne_of_gt M.lt
  have hDg' := Nat.ne_of_lt hDg
  clear D1 M E1
  go_wp2_with fail
  generalize (w1.alloc _ : World) = w3 at R M3 D3 E3 ⊢
  refine (mixInW_any g w1.heap.size 7 [r1, r2, r3, r4, r5, r6, r7] 7 w3 bd7 rfl (by omega) M3 R hne).mono ?_
  rintro e w4 ⟨rfl, M4, G⟩
  have D4 := D3.kept G (by intro e; injection e with e; omega)
  have E4 := bel_grown E3 G hg
  clear d0 d1 d2 d3 d4 d5 d6 d7 d8 R M3 D3 E3 G hne
  generalize hx : mixW 7 [r1, r2, r3, r4, r5, r6, r7] = x at M4 ⊢
  have HX := Lib.hid hx
  have hbx : Bd x := hx ▸ mixW_bd _ _ bd7
  clear hx
  obtain ⟨d0, d1, d2, d3, d4, d5, d6, d7, d8⟩ := D4.nine
  clear d0 d1 d2 d3 d4 d5 d6 d8
  go_wp2_with fail
  clear d7
  go_loopw [4, 30] (fun a i wr => ∃ (k : Nat) (y : Int), k ≤ m ∧ i = .int .i64 k ∧ a = .int .i64 y ∧ Hid (mixW x (flatI (ps.take k)) = y) ∧ Box wr g 2 #[.int .i64 y] ∧ Below w.heap.size w wr) (fun _ i _ => m - (intOf i).toNat)
  case atStart => exact ⟨0, x, by omega, rfl, rfl, rfl, M4, E4⟩
  case round =>
    clear M4 E4 D4
    obtain ⟨k, y, hk, rfl, rfl, hy, M, E⟩ := hrel
    by_cases hlt : k < m
    · obtain ⟨b, o, hA, hb, hc⟩ := (HR.out.below E (Nat.le_refl _)).2 (by omega)
      subst hA
      obtain ⟨c0, c1⟩ := hc k hlt
      have hbl := Nat.lt_of_lt_of_le hb E.size
      have HS : Hid (mixW x (flatI (ps.take (k + 1))) = mixW y [(pth ps k).1, (pth ps k).2]) := by
        show _ = _
        rw [flatI_snoc (by rw [HL.out]; exact hlt), mixW_app, hy.out]
      have hby : Bd y := by rw [← hy.out]; exact mixW_bd _ _ hbx
      clear hc
      generalize pth ps k = z at c0 c1 HS
      obtain ⟨z0, z1⟩ := z
      dsimp only at c0 c1 HS
      have S := Box.new wr 136 #[.int .i64 z0, .int .i64 z1]
      have M1 := M.alloc (.cells #[.int .i64 z0, .int .i64 z1] 136)
      have EA := bel_alloc wr (.cells #[.int .i64 z0, .int .i64 z1] 136)
      have R := Box.new (wr.alloc (.cells #[.int .i64 z0, .int .i64 z1] 136)) 2 #[.int .i64 z0, .int .i64 z1]
      have M2 := M1.alloc (.cells #[.int .i64 z0, .int .i64 z1] 2)
      have EB := bel_trans E (bel_trans EA (bel_alloc _ (.cells #[.int .i64 z0, .int .i64 z1] 2)))
      have hne := Nat.ne_of_gt M1.lt
      obtain ⟨s0, s1⟩ := S.two
      go_wp2_with fail
      simp only [World.size_alloc] at R hne
      generalize ((wr.alloc _).alloc _ : World) = w5 at R M2 EB ⊢
      clear S M M1 EA s0 s1 c0 c1
      refine (mixInW_any g (wr.heap.size + 1) 2 [z0, z1] y w5 hby rfl (by omega) M2 R hne).mono ?_
      rintro e w6 ⟨rfl, M6, G6⟩
      have E6 := bel_grown EB G6 hg
      clear R M2 EB G6
      generalize mixW y [z0, z1] = y' at HS M6 ⊢
      go_wp2
      go_roundw
      case rel => exact ⟨k + 1, y', by omega, by go_num, rfl, HS.out, M6, E6⟩
      case measure => simp [intOf]; omega
    · have hz := HL.out
      have HE : Hid (sumN r1 r2 r3 r4 r5 r6 r7 ps = y) := by
        show _ = _
        unfold sumN
        rw [mixW_app, HX.out, ← hy.out, List.take_of_length_le (by omega)]
      clear hz
      go_wp2
      go_ret
      exact ⟨by rw [HE.out]; rfl, E⟩
end Go.Proofs.YtjdepjpjjgkmbaaGreat

/- The model's SumOf at every record; conditions: how many seals it has. -/
namespace Go.Proofs.YtjdepjpjjgkmbaaGreat
open Go Go.RowKit

theorem Tryz.infoI9 : (Tryz.prog.info? 2).map (fun i => (i.zero, i.size, i.bytes)) = some (some (.int .i64 0), 1, 8) := by kernel_rfl
theorem own_built (w : World) (t : TypeId) (zs : List Int) (n : Nat) (h : zs.length = n) (hn : n ≤ 1000) : (w.alloc (.cells (zs.map (Value.int .i64)).toArray t)).ownsRow w.heap.size t 1 (.slice (some ⟨w.heap.size, 0, none⟩) n n) n (zs.map (Value.int .i64)) :=
  ⟨by simp [h], .inr ⟨w.heap.size, n, _, rfl, Nat.le_refl _, heap_alloc_new w _, Nat.le_refl _, by unfold maxLen; omega, by simp [h], by rw [← h]; exact List.take_of_length_le (by simp)⟩⟩
theorem own_row9 {w : World} {base : Nat} {e : TypeId} {q n cap : Nat} {zs : List Int} (h : w.ownsRow base e 1 (.slice (some ⟨q, 0, none⟩) n cap) n (zs.map (Value.int .i64))) (hn : zs.length = n) : Row w w.heap.size (some ⟨q, 0, none⟩) n zs := by
  refine ⟨hn, fun _ => ⟨q, 0, rfl, (h.lt q rfl).2, fun i hi => ?_⟩⟩
  have := h.cellAt i (by simp; omega)
  rw [Nat.zero_add, this]
  simp [nth, show i < zs.length by omega]

/-- What the next round reads of the list of seals and of the record, behind a list that grew. -/
theorem sumKeep {wr w2 : World} {g q b o : Nat} {t : TypeId} {v0 v1 v2 v3 v4 v5 v6 v7 v8 a0 a1 : Value} {ob : Obj} (D : Box wr g t #[v0, v1, v2, v3, v4, v5, v6, v7, v8]) (hb : b < wr.heap.size) (h0 : wr.cell? ⟨b, o, none⟩ = some a0) (h1 : wr.cell? ⟨b, o + 1, none⟩ = some a1)
    (G : (wr.drew.alloc ob).grownBy w2 (some q)) (hg : g ≠ q) (hbq : b ≠ q) :
    (w2.cell? ⟨g, 7, none⟩ = some v7 ∧ w2.cell? ⟨b, o, none⟩ = some a0 ∧ w2.cell? ⟨b, o + 1, none⟩ = some a1) ∧ Box w2 g t #[v0, v1, v2, v3, v4, v5, v6, v7, v8] := by
  have hl := D.lt
  have hB : Below wr.heap.size wr (wr.drew.alloc ob) := ((Below.refl _ wr).drew).alloc (Nat.le_refl _) ob
  have F : ∀ c k u, c < wr.heap.size → c ≠ q → wr.cell? ⟨c, k, none⟩ = some u → w2.cell? ⟨c, k, none⟩ = some u := fun c k u hc hq h =>
    ((World.cell?_of_block (G.block c (Nat.lt_of_lt_of_le hc hB.size) (by intro e; injection e with e; exact hq e))).trans (hB.cell (p := ⟨c, k, none⟩) hc)).trans h
  exact ⟨⟨F g 7 _ hl hg (D.cell 7), F b o _ hb hbq h0, F b (o + 1) _ hb hbq h1⟩, (D.later hB hl).kept G (by intro e; injection e with e; exact hg e.symm)⟩

set_option maxRecDepth 100000 in
set_option maxHeartbeats 2000000 in
theorem specSumOf_is (r1 r2 r3 r4 r5 r6 r7 : Int) (L : Option Addr) (m mc : Nat) (r8 : Int) (ps : List (Int × Int)) (w : World) (hm : m ≤ 4194304) (hr : Pairs w w.heap.size L m ps) :
    Calls Tryz.prog 141 #[.agg #[.int .i64 r1, .int .i64 r2, .int .i64 r3, .int .i64 r4, .int .i64 r5, .int .i64 r6, .int .i64 r7, .slice L m mc, .int .i64 r8]] w fun e w' => e = .returned (.int .i64 (sumN r1 r2 r3 r4 r5 r6 r7 ps)) ∧ Below w.heap.size w w' := by
  obtain ⟨i0, hi0, hz0, hz1, hz2⟩ := info_parts Tryz.infoI9
  have D := Box.new w 46 #[.int .i64 r1, .int .i64 r2, .int .i64 r3, .int .i64 r4, .int .i64 r5, .int .i64 r6, .int .i64 r7, .slice L m mc, .int .i64 r8]
  have hb0 := bel_alloc w (.cells #[.int .i64 r1, .int .i64 r2, .int .i64 r3, .int .i64 r4, .int .i64 r5, .int .i64 r6, .int .i64 r7, .slice L m mc, .int .i64 r8] 46)
  have HR := Lib.hid hr
  have HL := Lib.hid hr.1
  clear hr
  go_enter Tryz.func141, Tryz.ntmps141
  have hDg := D.lt
  have O : ((w.alloc (.cells #[.int .i64 r1, .int .i64 r2, .int .i64 r3, .int .i64 r4, .int .i64 r5, .int .i64 r6, .int .i64 r7, .slice L m mc, .int .i64 r8] 46)).alloc (.cells #[.int .i64 r1, .int .i64 r2, .int .i64 r3, .int .i64 r4, .int .i64 r5, .int .i64 r6, .int .i64 r7] 2)).ownsRow (w.alloc (.cells #[.int .i64 r1, .int .i64 r2, .int .i64 r3, .int .i64 r4, .int .i64 r5, .int .i64 r6, .int .i64 r7, .slice L m mc, .int .i64 r8] 46)).heap.size 2 1 (.slice (some ⟨(w.alloc (.cells #[.int .i64 r1, .int .i64 r2, .int .i64 r3, .int .i64 r4, .int .i64 r5, .int .i64 r6, .int .i64 r7, .slice L m mc, .int .i64 r8] 46)).heap.size, 0, none⟩) 7 7) 7 ([r1, r2, r3, r4, r5, r6, r7].map (Value.int .i64)) := own_built (w.alloc (.cells #[.int .i64 r1, .int .i64 r2, .int .i64 r3, .int .i64 r4, .int .i64 r5, .int .i64 r6, .int .i64 r7, .slice L m mc, .int .i64 r8] 46)) 2 [r1, r2, r3, r4, r5, r6, r7] 7 rfl (by omega)
  have D1 := D.alloc (.cells #[.int .i64 r1, .int .i64 r2, .int .i64 r3, .int .i64 r4, .int .i64 r5, .int .i64 r6, .int .i64 r7] 2)
  have E1 := bel_trans hb0 (bel_alloc _ (.cells #[.int .i64 r1, .int .i64 r2, .int .i64 r3, .int .i64 r4, .int .i64 r5, .int .i64 r6, .int .i64 r7] 2))
  obtain ⟨d0, d1, d2, d3, d4, d5, d6, d7, d8⟩ := D.nine
  simp only [World.size_alloc] at O
  go_wp2_with fail
  clear d0 d1 d2 d3 d4 d5 d6 d7 d8 D hb0 hDg
  generalize ((w.alloc _).alloc _ : World) = w1 at O D1 E1 ⊢
  go_loopw [3, 4] (fun a i wr => ∃ (k q cap : Nat), k ≤ m ∧ i = .int .i64 k ∧ a = .slice (some ⟨q, 0, none⟩) (7 + 2 * k) cap ∧ wr.ownsRow (w.heap.size + 1) 2 1 (.slice (some ⟨q, 0, none⟩) (7 + 2 * k) cap) (7 + 2 * k) (([r1, r2, r3, r4, r5, r6, r7] ++ flatI (ps.take k)).map (Value.int .i64)) ∧ Box wr w.heap.size 46 #[.int .i64 r1, .int .i64 r2, .int .i64 r3, .int .i64 r4, .int .i64 r5, .int .i64 r6, .int .i64 r7, .slice L m mc, .int .i64 r8] ∧ Below w.heap.size w wr) (fun _ i _ => m - (intOf i).toNat)
  case atStart => exact ⟨0, _, 7, by omega, rfl, rfl, by simpa [flatI] using O, D1, E1⟩
  case round =>
    clear O D1 E1
    obtain ⟨k, q, cap, hk, rfl, rfl, O, D, E⟩ := hrel
    have d7 := D.cell 7
    have hq : w.heap.size + 1 ≤ q ∧ q < wr.heap.size := O.lt q rfl
    by_cases hlt : k < m
    · obtain ⟨b, o, hA, hb, hc⟩ := (HR.out.below E (Nat.le_refl _)).2 (by omega)
      subst hA
      obtain ⟨c0, c1⟩ := hc k hlt
      have hbl := Nat.lt_of_lt_of_le hb E.size
      have HS : Hid (([r1, r2, r3, r4, r5, r6, r7] ++ flatI (ps.take (k + 1))).map (Value.int .i64) = ([r1, r2, r3, r4, r5, r6, r7] ++ flatI (ps.take k)).map (Value.int .i64) ++ [.int .i64 (pth ps k).1, .int .i64 (pth ps k).2]) := by
        show _ = _
        rw [flatI_snoc (by rw [HL.out]; exact hlt)]
        simp
      clear hc
      generalize pth ps k = z at c0 c1 HS
      obtain ⟨z0, z1⟩ := z
      dsimp only at c0 c1 HS
      have hDl := D.lt
      have hkI : (k : Int) < (m : Int) := by omega
      go_wp2_with fail
      go_region_held3 (fun w' => w'.cell? ⟨w.heap.size, 7, none⟩ = some (.slice (some ⟨b, o, none⟩) m mc) ∧ w'.cell? ⟨b, o + k * 2, none⟩ = some (.int .i64 z0) ∧ w'.cell? ⟨b, o + k * 2 + 1, none⟩ = some (.int .i64 z1))
        (first | (with_reducible exact K2) | go_keep)
        (first | (refine step_append_lies _ (by rfl) _ _ _ (by rfl) (w.heap.size + 1) 2 i0 _ 1 8 Tryz.underlying24 hi0 hz0 hz1 hz2 rfl (by omega) (.slice (some ⟨q, 0, none⟩) (7 + 2 * k) cap) (7 + 2 * k) (([r1, r2, r3, r4, r5, r6, r7] ++ flatI (ps.take k)).map (Value.int .i64)) (by rfl) (O.drew.alloc _) ⟨wr.heap.size, 0, none⟩ 2 2 [.int .i64 z0, .int .i64 z1] (by rfl) (by rfl) (World.news_of_block (cs := #[.int .i64 z0, .int .i64 z1]) (t := 2) (fr := (0, 0)) (heap_alloc_new wr.drew _)) (by simp [Value.oneCell']) (by omega) (by unfold maxLen; omega) (by omega) (by simp; omega) (wr.heap.size + 1) (by simp) ?_; intro gg cap2 w2 hown2 hgrow2 hat hlt2; replace hgrow2 : World.grownBy _ w2 (some q) := hgrow2; obtain ⟨K2, D2⟩ := sumKeep D hbl c0 c1 hgrow2 (by omega) (by omega); clear hat))
      all_goals
        have O2 : w2.ownsRow (w.heap.size + 1) 2 1 (.slice (some ⟨gg, 0, none⟩) (7 + 2 * (k + 1)) cap2) (7 + 2 * (k + 1)) (([r1, r2, r3, r4, r5, r6, r7] ++ flatI (ps.take (k + 1))).map (Value.int .i64)) := by rw [HS.out]; exact hown2
        have E2 := bel_grown (((E.drew).alloc E.size (.cells #[.int .i64 z0, .int .i64 z1] 2))) hgrow2 (by omega)
        clear K2 hown2 hgrow2 c0 c1 d7 O
        go_wp2
        go_roundw
        case rel => exact ⟨k + 1, gg, cap2, by omega, by go_num, rfl, O2, D2, E2⟩
        case measure => simp [intOf]; omega
    · have hz := HL.out
      have HE : Hid (ps.take k = ps) := by
        show _ = _
        rw [List.take_of_length_le (by omega)]
      have hkm : k = m := by omega
      subst hkm
      rw [HE.out] at O
      have hR9 := own_row9 O (by simp [flatI_len]; omega)
      have E9 := E
      clear hz O
      go_wp2_with fail
      refine (l3MixW_any (some ⟨q, 0, none⟩) (7 + 2 * k) cap ([r1, r2, r3, r4, r5, r6, r7] ++ flatI ps) wr (by omega) hR9).mono ?_
      rintro e w3 ⟨rfl, hb3⟩
      have E3 := bel_trans E hb3
      go_wp2
      go_ret
      exact ⟨rfl, E3⟩
end Go.Proofs.YtjdepjpjjgkmbaaGreat

/- The parts of impl/l05_note.go: what a note has, values, seals that can be sent, what is answered: contracts of each of them. -/
namespace Go.Proofs.YtjdepjpjjgkmbaaGreat
open Go.RowKit

end Go.Proofs.YtjdepjpjjgkmbaaGreat

/- The rest of impl/l05_note.go's parts: what was, seals that can be sent, stamps and values: contracts of each of them. -/
namespace Go.Proofs.YtjdepjpjjgkmbaaGreat
open Go.RowKit

end Go.Proofs.YtjdepjpjjgkmbaaGreat

/- The parts of the model's NoteOk: values, seals that can be sent, what a kind has not; what the model answers: contracts of each of them. -/
namespace Go.Proofs.YtjdepjpjjgkmbaaGreat
open Go.RowKit

end Go.Proofs.YtjdepjpjjgkmbaaGreat

/- The laws' own copies of a note, their size and the test that two are alike: contracts of each of them. -/
namespace Go.Proofs.YtjdepjpjjgkmbaaGreat
open Go.RowKit

/-- What a copying of a note keeps: the note, the answer's variable, the copy so far. -/
structure TN (w wr : World) (tn ti : TypeId) (src zer cur : Array Value) : Prop where
  nb : Box wr w.heap.size tn src
  rb : Box wr (w.heap.size + 1) ti zer
  ob : Box wr (w.heap.size + 1 + 1) ti cur
  bel : Below w.heap.size w wr
theorem TN.later {w wr w' : World} {tn ti : TypeId} {src zer cur : Array Value} (h : TN w wr tn ti src zer cur) (hb : Below wr.heap.size wr w') : TN w w' tn ti src zer cur :=
  ⟨h.nb.later hb h.nb.lt, h.rb.later hb h.rb.lt, h.ob.later hb h.ob.lt, bel_trans h.bel hb⟩
theorem TN.put {w wr : World} {tn ti : TypeId} {src zer cur : Array Value} (h : TN w wr tn ti src zer cur) (i : Nat) (u : Value) : TN w (wr.setCell ⟨w.heap.size + 1 + 1, i, none⟩ u) tn ti src zer (cur.setIfInBounds i u) :=
  ⟨h.nb.far (p := ⟨w.heap.size + 1 + 1, i, none⟩) (by simp; omega) u, h.rb.far (p := ⟨w.heap.size + 1 + 1, i, none⟩) (by simp) u, h.ob.set i u, h.bel.setCell (p := ⟨w.heap.size + 1 + 1, i, none⟩) (by simp; omega) u⟩
theorem TN.start (w : World) (tn ti : TypeId) (src zer cur : Array Value) : TN w (((w.alloc (.cells src tn)).alloc (.cells zer ti)).alloc (.cells cur ti)) tn ti src zer cur := by
  have B1 := (Box.new (w.alloc (.cells src tn)) ti zer).alloc (.cells cur ti)
  have B2 := Box.new ((w.alloc (.cells src tn)).alloc (.cells zer ti)) ti cur
  simp only [World.size_alloc] at B1 B2
  exact ⟨((Box.new w tn src).alloc _).alloc _, B1, B2, bel_trans (bel_trans (bel_alloc _ _) (bel_alloc _ _)) (bel_alloc _ _)⟩

theorem Held.far {w : World} {g : Nat} {d : List (Int × Int)} (h : Held w g d) {a : Addr} (ha : a.block ≠ g) (u : Value) : Held (w.setCell a u) g d := by
  have hf : (w.setCell a u).heap[g]? = w.heap[g]? := Below.heap_setCell w a u g (fun e => ha e.symm)
  refine ⟨by rw [size_set]; exact h.lt, fun o => ?_, fun i hi => ?_, fun i hi => ?_⟩
  · rw [← h.fr o]
    unfold World.frozen?
    simp only [hf]
  · rw [World.cell?_of_block hf]; exact h.at0 i hi
  · rw [World.cell?_of_block hf]; exact h.at1 i hi

/-- What the test that two notes are alike keeps: both, and their lists. -/
structure EN (w wr : World) (t : TypeId) (x y : Array Value) (P : Option Addr) (p : Nat) (ps : List (Int × Int)) (Q : Option Addr) (q : Nat) (qs : List (Int × Int)) (P' Q' : Option Addr) : Prop where
  xb : Box wr w.heap.size t x
  yb : Box wr (w.heap.size + 1) t y
  hp : Pairs wr wr.heap.size P p ps
  hq : Pairs wr wr.heap.size Q q qs
  hp' : Pairs wr wr.heap.size P' p ps
  hq' : Pairs wr wr.heap.size Q' q qs
  bel : Below w.heap.size w wr
theorem EN.later {w wr w' : World} {t : TypeId} {x y : Array Value} {P : Option Addr} {p : Nat} {ps : List (Int × Int)} {Q : Option Addr} {q : Nat} {qs : List (Int × Int)} {P' Q' : Option Addr} (h : EN w wr t x y P p ps Q q qs P' Q') (hb : Below wr.heap.size wr w') : EN w w' t x y P p ps Q q qs P' Q' :=
  ⟨h.xb.later hb h.xb.lt, h.yb.later hb h.yb.lt, h.hp.later hb, h.hq.later hb, h.hp'.later hb, h.hq'.later hb, bel_trans h.bel hb⟩

end Go.Proofs.YtjdepjpjjgkmbaaGreat

/- The exact laws of AnswerTo and NoteOk answer true, whatever they are given: walks of each of them (written by laws_note.py). -/
namespace Go.Proofs.YtjdepjpjjgkmbaaGreat
open Go.RowKit

end Go.Proofs.YtjdepjpjjgkmbaaGreat

/- The laws' sizes, copies, comparisons and marks of groups, shelves and notes as data; conditions: the sizes. -/
namespace Go.Proofs.YtjdepjpjjgkmbaaGreat
open Go.RowKit

/-- What a size test answers: what is left, or less than nothing. -/
def Left (L : Int) (k : Nat) (e : Ending) : Prop := ∃ v : Int, e = .returned (.int .i64 v) ∧ ((k : Int) ≤ L → v = L - k) ∧ (L < k → v < 0)
theorem sz_G {d : GrpD} {w : World} {F : Nat → Prop} {C : Array Value} (h : AtG d w F (.agg C)) :
    Calls Tryz.prog 24 #[.agg C, .int .i64 1048576] w fun e w' => Left 1048576 d.sz e ∧ Below w.heap.size w w' := by
  obtain ⟨A, n, cap, e, hm, hr⟩ := h
  injection e with e
  subst e
  have hl : d.zs.length = n := hr.1.1
  rcases Nat.lt_or_ge 1048576 n with hn | hn
  · refine (szGroup_gt _ _ _ _ A n cap w hn hm).mono ?_
    rintro e w' ⟨rfl, hb⟩
    exact ⟨⟨-1, rfl, fun h => absurd h (by unfold GrpD.sz; omega), fun _ => by omega⟩, hb⟩
  · refine (szGroup_le _ _ _ _ A n cap w hn).mono ?_
    rintro e w' ⟨rfl, hb⟩
    exact ⟨⟨_, rfl, fun _ => by unfold GrpD.sz; rw [hl], fun h => absurd h (by unfold GrpD.sz; omega)⟩, hb⟩
/-- A copy was made: the same data, in new blocks. -/
def Copied (P : World → (Nat → Prop) → Value → Prop) (w : World) (e : Ending) (w' : World) : Prop := ∃ C, e = .returned (.agg C) ∧ P w' (Iv w.heap.size w'.heap.size) (.agg C) ∧ Below w.heap.size w w'
theorem to_G {d : GrpD} {w : World} {F : Nat → Prop} {C : Array Value} (h : AtG d w F (.agg C)) (hs : d.sz ≤ 1048576) : Calls Tryz.prog 26 #[.agg C] w (Copied (LieG d) w) := by
  obtain ⟨A, n, cap, e, hm, hr⟩ := h
  injection e with e
  subst e
  have hl : d.zs.length = n := hr.1.1
  have hn : n ≤ 1048576 := by unfold GrpD.sz at hs; omega
  refine (toGroup_fr _ _ _ _ A n cap d.zs w hn hr.1).mono ?_
  rintro e w' ⟨g, hg, rfl, hrow, hf, hgl, hb⟩
  exact ⟨_, rfl, ⟨_, rfl, g, n, n, rfl, Nat.le_refl _, by unfold maxLen; omega, ⟨hg, hgl⟩, hgl, hf, hrow⟩, hb⟩
theorem eq_G {d : GrpD} {w : World} {F F' : Nat → Prop} {C C' : Array Value} (h : AtG d w F (.agg C)) (h' : AtG d w F' (.agg C')) (hs : d.sz ≤ 1048576) :
    Calls Tryz.prog 28 #[.agg C, .agg C'] w fun e w' => e = .returned (.bool true) ∧ Below w.heap.size w w' := by
  obtain ⟨A, n, cap, e, hm, hr⟩ := h
  obtain ⟨A', n', cap', e', hm', hr'⟩ := h'
  injection e with e
  injection e' with e'
  subst e e'
  have hl : d.zs.length = n := hr.1.1
  have hl' : d.zs.length = n' := hr'.1.1
  subst hl hl'
  exact eqGroup_same _ _ _ _ A A' _ cap cap' d.zs w hs hr.1 hr'.1
/-- The marks of an argument: only its own blocks turn. -/
theorem mark_G {d : GrpD} {w : World} {F : Nat → Prop} {C : Array Value} {k : Int} (h : LieG d w F (.agg C)) (hs : d.sz ≤ 1048576) (hk0 : 0 ≤ k) (hk1 : k ≤ 10000000) :
    Calls Tryz.prog 34 #[.agg C, .int .i64 k] w fun e w' => e = .returned (.int .i64 (k + d.mk8)) ∧ Turns F w w' := by
  obtain ⟨u, e, g, n, cap, rfl, h1, h2, hF, hl, hf, hr⟩ := h
  injection e with e
  subst e
  have hn : d.zs.length = n := hr.1
  unfold GrpD.sz at hs
  refine (markGroup_is _ _ _ _ g n cap k d.zs w (by omega) hk0 (by omega) hr hf hl).mono ?_
  rintro e w' ⟨rfl, hg⟩
  exact ⟨by unfold GrpD.mk8; rw [hn], (Turns.of_grown hg).sub fun i _ hi => hi ▸ hF⟩
end Go.Proofs.YtjdepjpjjgkmbaaGreat

/- The laws' sizes, copies, comparisons and marks of a record as data, and its sum; conditions: the sizes. -/
namespace Go.Proofs.YtjdepjpjjgkmbaaGreat
open Go Go.RowKit

theorem sz_C {d : RecD} {w : World} {F : Nat → Prop} {C : Array Value} {L : Int} (h : AtC d w F (.agg C)) (h0 : 0 ≤ L) (h1 : L ≤ 1048576) :
    Calls Tryz.prog 146 #[.agg C, .int .i64 L] w fun e w' => Left L d.sz e ∧ Below w.heap.size w w' := by
  obtain ⟨A, n, cap, e, hm, hr⟩ := h
  injection e with e
  subst e
  have hl : d.ps.length = n := hr.1.1
  have hz : d.sz = n := hl
  rcases Int.lt_or_le L (n : Int) with hn | hn
  · refine (szRec_gt _ _ _ _ _ _ _ A n cap _ L w h0 h1 hn hm).mono ?_
    rintro e w' ⟨rfl, hb⟩
    exact ⟨⟨-1, rfl, fun h => absurd h (by omega), fun _ => by omega⟩, hb⟩
  · refine (szRec_le _ _ _ _ _ _ _ A n cap _ L w h1 hn).mono ?_
    rintro e w' ⟨rfl, hb⟩
    exact ⟨⟨_, rfl, fun _ => by omega, fun h => absurd h (by omega)⟩, hb⟩
theorem to_C {d : RecD} {w : World} {F : Nat → Prop} {C : Array Value} (h : AtC d w F (.agg C)) (hs : d.sz ≤ 1048576) : Calls Tryz.prog 147 #[.agg C] w (Copied (LieC d) w) := by
  obtain ⟨A, n, cap, e, hm, hr⟩ := h
  injection e with e
  subst e
  have hl : d.ps.length = n := hr.1.1
  have hn : n ≤ 1048576 := by unfold RecD.sz at hs; omega
  refine (toRec_any _ _ _ _ _ _ _ A n cap _ d.ps w hn hr.1).mono ?_
  rintro e w' ⟨g, hg, rfl, hp, hb⟩
  subst hl
  exact ⟨_, rfl, ⟨_, rfl, .inr ⟨g, _, ⟨hg, hp.lt⟩, rfl, Nat.le_refl _, by unfold maxLen; omega, hp⟩⟩, hb⟩
theorem eq_C {d : RecD} {w : World} {F F' : Nat → Prop} {C C' : Array Value} (h : AtC d w F (.agg C)) (h' : AtC d w F' (.agg C')) (hs : d.sz ≤ 1048576) :
    Calls Tryz.prog 148 #[.agg C, .agg C'] w fun e w' => e = .returned (.bool true) ∧ Below w.heap.size w w' := by
  obtain ⟨A, n, cap, e, hm, hr⟩ := h
  obtain ⟨A', n', cap', e', hm', hr'⟩ := h'
  injection e with e
  injection e' with e'
  subst e e'
  have hl : d.ps.length = n := hr.1.1
  have hl' : d.ps.length = n' := hr'.1.1
  subst hl hl'
  exact eqRec_same _ _ _ _ _ _ _ A _ cap _ A' cap' d.ps w hs hr.1 hr'.1

theorem LieC.slc {d : RecD} {w : World} {F : Nat → Prop} {C : Array Value} (h : AtC d w F (.agg C)) (hs : d.sz ≤ 1048576) : ∃ (L : Option Addr) (m mc : Nat), C = d.cells (.slice L m mc) ∧ m ≤ 4194304 ∧ Pairs w w.heap.size L m d.ps := by
  obtain ⟨A, n, cap, e, hm, hr⟩ := h
  injection e with e
  have hl : d.ps.length = n := hr.1.1
  exact ⟨A, n, cap, e, by unfold RecD.sz at hs; omega, hr.1⟩
theorem ownP_res {w : World} {F : Nat → Prop} {u : Value} {ps : List (Int × Int)} (h : OwnP w F u ps) : ∃ lo hi, ResP w lo hi u ps ∧ ∀ b, Iv lo hi b → F b := by
  rcases h with h | ⟨g, cap, hF, h1, h2, h3, h4⟩
  · exact ⟨0, 0, .inl h, fun b hb => by unfold Iv at hb; omega⟩
  · refine ⟨g, g + 1, .inr ⟨g, cap, Nat.le_refl _, by omega, h1, h2, h3, h4⟩, fun b hb => ?_⟩
    unfold Iv at hb
    obtain rfl : b = g := by omega
    exact hF
theorem Turns.of_band {lo hi : Nat} {a b : World} (h : Band lo hi a b) : Turns (Iv lo hi) a b := ⟨h.os, h.tape, h.output, h.size, fun i hi' hb => h.block i hi' (by unfold Iv at hb; omega)⟩
end Go.Proofs.YtjdepjpjjgkmbaaGreat

/- A list of records in memory: read through blocks of F alone; no conditions. -/
namespace Go.Proofs.YtjdepjpjjgkmbaaGreat
open Go Go.RowKit

/-- The record d, with the list u, stands at this place. -/
def RecAt (w : World) (b o : Nat) (d : RecD) (u : Value) : Prop :=
  w.cell? ⟨b, o, none⟩ = some (.int .i64 d.r1) ∧ w.cell? ⟨b, o + 1, none⟩ = some (.int .i64 d.r2) ∧ w.cell? ⟨b, o + 2, none⟩ = some (.int .i64 d.r3) ∧ w.cell? ⟨b, o + 3, none⟩ = some (.int .i64 d.r4) ∧ w.cell? ⟨b, o + 4, none⟩ = some (.int .i64 d.r5) ∧ w.cell? ⟨b, o + 5, none⟩ = some (.int .i64 d.r6) ∧ w.cell? ⟨b, o + 6, none⟩ = some (.int .i64 d.r7) ∧ w.cell? ⟨b, o + 7, none⟩ = some u ∧ w.cell? ⟨b, o + 8, none⟩ = some (.int .i64 d.r8)
theorem RecAt.turn {w w' : World} {b o : Nat} {d : RecD} {u : Value} {T : Nat → Prop} (h : RecAt w b o d u) (hb : b < w.heap.size) (ht : Turns T w w') (hT : ¬ T b) : RecAt w' b o d u := by
  have F : ∀ k, w'.cell? ⟨b, k, none⟩ = w.cell? ⟨b, k, none⟩ := fun k => ht.cell hb hT k
  unfold RecAt
  simp only [F]
  exact h
def RecsF (ds : List RecD) (w : World) (F : Nat → Prop) (A : Option Addr) (n : Nat) : Prop :=
  ds.length = n ∧ (0 < n → ∃ b o, A = some ⟨b, o, none⟩ ∧ F b ∧ b < w.heap.size ∧ ∀ i (h : i < ds.length), ∃ L m mc, RecAt w b (o + i * 9) ds[i] (.slice L m mc) ∧ m ≤ maxLen ∧ PairsF w F L m (ds[i]).ps)
theorem RecsF.turn {T : Nat → Prop} {w w' : World} {F : Nat → Prop} {A : Option Addr} {n : Nat} {ds : List RecD} (h : RecsF ds w F A n) (ht : Turns T w w') (hd : ∀ b, F b → ¬ T b) : RecsF ds w' F A n := by
  refine ⟨h.1, fun hn => ?_⟩
  obtain ⟨b, o, hA, hF, hb, hc⟩ := h.2 hn
  refine ⟨b, o, hA, hF, Nat.lt_of_lt_of_le hb ht.size, fun i hi => ?_⟩
  obtain ⟨L, m, mc, h1, h2, h3⟩ := hc i hi
  exact ⟨L, m, mc, h1.turn hb ht (hd b hF), h2, h3.turn ht hd⟩
theorem RecsF.later {w w' : World} {F : Nat → Prop} {A : Option Addr} {n : Nat} {ds : List RecD} (h : RecsF ds w F A n) (hb : Below w.heap.size w w') : RecsF ds w' F A n := h.turn (T := fun _ => False) (Turns.of_below hb) (fun _ _ h => h)
theorem RecsF.sub {w : World} {F F' : Nat → Prop} {A : Option Addr} {n : Nat} {ds : List RecD} (h : RecsF ds w F A n) (hs : ∀ b, F b → F' b) : RecsF ds w F' A n := by
  refine ⟨h.1, fun hn => ?_⟩
  obtain ⟨b, o, hA, hF, hb, hc⟩ := h.2 hn
  refine ⟨b, o, hA, hs b hF, hb, fun i hi => ?_⟩
  obtain ⟨L, m, mc, h1, h2, h3⟩ := hc i hi
  exact ⟨L, m, mc, h1, h2, h3.1, fun hn b o e => hs b (h3.2 hn b o e)⟩
end Go.Proofs.YtjdepjpjjgkmbaaGreat

namespace Go.Proofs.YtjdepjpjjgkmbaaGreat
open Go.RowKit

/-- Is this seal right? -/
def rB (s l c sh : Int) (zs : List Int) (ck ch ct cq cv : Int) (p : Int × Int) : Bool := riB s l c sh zs ck ch ct cq cv p.1 p.2
/-- The right ones, one of each server, in order. -/
def goodP (R : Int × Int → Bool) (ps : List (Int × Int)) : List (Int × Int) := puts (ps.filter R)
theorem goodP_nil (R : Int × Int → Bool) : goodP R [] = [] := rfl
theorem goodP_yes {R : Int × Int → Bool} {ps : List (Int × Int)} {k : Nat} (h : k < ps.length) (hR : R (pth ps k) = true) : goodP R (ps.take (k + 1)) = put (goodP R (ps.take k)) (pth ps k) := by
  rw [List.take_succ_eq_append_getElem h, ← pth_lt h]
  unfold goodP
  rw [List.filter_append, show [pth ps k].filter R = [pth ps k] by simp [hR], puts_snoc]
theorem goodP_no {R : Int × Int → Bool} {ps : List (Int × Int)} {k : Nat} (h : k < ps.length) (hR : R (pth ps k) = false) : goodP R (ps.take (k + 1)) = goodP R (ps.take k) := by
  rw [List.take_succ_eq_append_getElem h, ← pth_lt h]
  unfold goodP
  rw [List.filter_append, show [pth ps k].filter R = [] by simp [hR], List.append_nil]
theorem goodP_le (R : Int × Int → Bool) (ps : List (Int × Int)) : (goodP R ps).length ≤ ps.length :=
  Nat.le_trans (puts_le _) (List.length_filter_le _ _)
/-- What CertCount answers. -/
def cntN (s l c sh : Int) (zs : List Int) (ck ch ct cq cv : Int) (ps : List (Int × Int)) : Int := ((goodP (rB s l c sh zs ck ch ct cq cv) ps).length : Int)
/-- What CertOk answers. -/
def cerB (s l c sh : Int) (zs : List Int) (ck ch ct cq cv : Int) (ps : List (Int × Int)) : Bool := okB s l c sh zs && decide ((ps.length : Int) ≤ 20) && decide (quoN s l c sh zs ≤ cntN s l c sh zs ck ch ct cq cv ps)
/-- What ProvenOk answers. -/
def proB (s l c sh : Int) (zs : List Int) (x ct cq v : Int) (ps : List (Int × Int)) : Bool :=
  okB s l c sh zs && inB x 0 (sh - 1) && ((decide (ct = 0 ∧ cq = 0) && decide (v = 0)) || cerB s l c sh zs 1 x ct cq v ps)

theorem rightB_is {s l c sh : Int} {zs : List Int} {ck ch ct cq cv x t : Int} {b : Bool} (h : rB s l c sh zs ck ch ct cq cv (x, t) = b) (A : Option Addr) (n cap : Nat) (w : World) (hm : n ≤ maxLen) (hr : Row w w.heap.size A n zs) :
    Calls Tryz.prog 244 #[.agg #[.int .i64 s, .int .i64 l, .int .i64 c, .int .i64 sh, .slice A n cap], .agg #[.int .i64 ck, .int .i64 ch, .int .i64 ct, .int .i64 cq, .int .i64 cv], .agg #[.int .i64 x, .int .i64 t]] w fun e w' => e = .returned (.bool b) ∧ Below w.heap.size w w' := h ▸ sealRight_any s l c sh A n cap zs ck ch ct cq cv x t w hm hr
theorem specRightB_is {s l c sh : Int} {zs : List Int} {ck ch ct cq cv x t : Int} {b : Bool} (h : rB s l c sh zs ck ch ct cq cv (x, t) = b) (A : Option Addr) (n cap : Nat) (w : World) (hm : n ≤ maxLen) (hr : Row w w.heap.size A n zs) :
    Calls Tryz.prog 237 #[.agg #[.int .i64 s, .int .i64 l, .int .i64 c, .int .i64 sh, .slice A n cap], .agg #[.int .i64 ck, .int .i64 ch, .int .i64 ct, .int .i64 cq, .int .i64 cv], .agg #[.int .i64 x, .int .i64 t]] w fun e w' => e = .returned (.bool b) ∧ Below w.heap.size w w' := h ▸ specRight_any s l c sh A n cap zs ck ch ct cq cv x t w hm hr
/-- A right one is of a server. -/
theorem rB_who {s l c sh : Int} {zs : List Int} {ck ch ct cq cv : Int} {p : Int × Int} (h : rB s l c sh zs ck ch ct cq cv p = true) : 0 ≤ p.1 ∧ p.1 < s ∧ s ≤ 10 := by
  simp only [rB, riB, seB, srvB, Bool.and_eq_true] at h
  have h1 := okB_parts h.1.2.1
  have h2 := inB_true.1 h.1.2.2
  omega

end Go.Proofs.YtjdepjpjjgkmbaaGreat

/- The functions of certificates, first part: the flags of who sealed, CertCount, GoodSeals: contracts of each of them; up to some four million seals. -/
namespace Go.Proofs.YtjdepjpjjgkmbaaGreat
open Go.RowKit

/-- The flag of the server i: has it sealed? -/
def fl (J : List (Int × Int)) (i : Nat) : Bool := has J (i : Int)
theorem fl_put (J : List (Int × Int)) (x t : Int) (i : Nat) : fl (put J (x, t)) i = (fl J i || decide ((i : Int) = x)) := by
  rw [Bool.eq_iff_iff]
  simp only [fl, Bool.or_eq_true, decide_eq_true_eq, has_mem]
  unfold put
  split
  · rename_i h
    constructor
    · exact .inl
    · rintro (h' | h')
      · exact h'
      · rw [h']; exact has_mem.1 h
  · constructor
    · rintro ⟨p, hp, e⟩
      rcases ins_mem.1 hp with h | h
      · rw [h] at e; exact .inr e.symm
      · exact .inl ⟨p, h, e⟩
    · rintro (⟨p, hp, e⟩ | e)
      · exact ⟨p, ins_mem.2 (.inr hp), e⟩
      · exact ⟨(x, t), ins_mem.2 (.inl rfl), e.symm⟩

theorem Box.ten' {w : World} {g : Nat} {t : TypeId} {v0 v1 v2 v3 v4 v5 v6 v7 v8 v9 : Value} (h : Box w g t #[v0, v1, v2, v3, v4, v5, v6, v7, v8, v9]) :
    w.cell? ⟨g, 0, none⟩ = some v0 ∧ w.cell? ⟨g, 1, none⟩ = some v1 ∧ w.cell? ⟨g, 2, none⟩ = some v2 ∧ w.cell? ⟨g, 3, none⟩ = some v3 ∧ w.cell? ⟨g, 4, none⟩ = some v4 ∧ w.cell? ⟨g, 5, none⟩ = some v5 ∧ w.cell? ⟨g, 6, none⟩ = some v6 ∧ w.cell? ⟨g, 7, none⟩ = some v7 ∧ w.cell? ⟨g, 8, none⟩ = some v8 ∧ w.cell? ⟨g, 9, none⟩ = some v9 :=
  ⟨h.cell 0, h.cell 1, h.cell 2, h.cell 3, h.cell 4, h.cell 5, h.cell 6, h.cell 7, h.cell 8, h.cell 9⟩

theorem bel_ten {w w' : World} {B g : Nat} (h : Below B w w') (hg : B ≤ g) (u0 u1 u2 u3 u4 u5 u6 u7 u8 u9 : Value) :
    Below B w ((((((((((w'.setCell ⟨g, 0, none⟩ u0).setCell ⟨g, 1, none⟩ u1).setCell ⟨g, 2, none⟩ u2).setCell ⟨g, 3, none⟩ u3).setCell ⟨g, 4, none⟩ u4).setCell ⟨g, 5, none⟩ u5).setCell ⟨g, 6, none⟩ u6).setCell ⟨g, 7, none⟩ u7).setCell ⟨g, 8, none⟩ u8).setCell ⟨g, 9, none⟩ u9) :=
  (((((((((h.setCell hg u0).setCell hg u1).setCell hg u2).setCell hg u3).setCell hg u4).setCell hg u5).setCell hg u6).setCell hg u7).setCell hg u8).setCell hg u9
/-- The flag of x is set. -/
theorem Box.flag {w : World} {g : Nat} {ty : TypeId} {J : List (Int × Int)} (h : Box w g ty #[.bool (fl (J) 0), .bool (fl (J) 1), .bool (fl (J) 2), .bool (fl (J) 3), .bool (fl (J) 4), .bool (fl (J) 5), .bool (fl (J) 6), .bool (fl (J) 7), .bool (fl (J) 8), .bool (fl (J) 9)]) (x t : Int) (hx : 0 ≤ x ∧ x < 10) : Box (w.setCell ⟨g, x.toNat, none⟩ (.bool true)) g ty #[.bool (fl (put J (x, t)) 0), .bool (fl (put J (x, t)) 1), .bool (fl (put J (x, t)) 2), .bool (fl (put J (x, t)) 3), .bool (fl (put J (x, t)) 4), .bool (fl (put J (x, t)) 5), .bool (fl (put J (x, t)) 6), .bool (fl (put J (x, t)) 7), .bool (fl (put J (x, t)) 8), .bool (fl (put J (x, t)) 9)] := by
  have h' := h.set x.toNat (.bool true)
  have e : (#[.bool (fl (J) 0), .bool (fl (J) 1), .bool (fl (J) 2), .bool (fl (J) 3), .bool (fl (J) 4), .bool (fl (J) 5), .bool (fl (J) 6), .bool (fl (J) 7), .bool (fl (J) 8), .bool (fl (J) 9)] : Array Value).setIfInBounds x.toNat (.bool true) = #[.bool (fl (put J (x, t)) 0), .bool (fl (put J (x, t)) 1), .bool (fl (put J (x, t)) 2), .bool (fl (put J (x, t)) 3), .bool (fl (put J (x, t)) 4), .bool (fl (put J (x, t)) 5), .bool (fl (put J (x, t)) 6), .bool (fl (put J (x, t)) 7), .bool (fl (put J (x, t)) 8), .bool (fl (put J (x, t)) 9)] := by
    have hc : x = 0 ∨ x = 1 ∨ x = 2 ∨ x = 3 ∨ x = 4 ∨ x = 5 ∨ x = 6 ∨ x = 7 ∨ x = 8 ∨ x = 9 := by omega
    rcases hc with rfl | rfl | rfl | rfl | rfl | rfl | rfl | rfl | rfl | rfl <;> simp [fl_put] <;> rfl
  rw [e] at h'
  exact h'

set_option maxRecDepth 100000 in
set_option maxHeartbeats 1000000 in
theorem and_no (J : List (Int × Int)) (s l c sh : Int) (A : Option Addr) (n cap : Nat) (zs : List Int) (ck ch ct cq cv x t : Int) (w : World) (hR : rB s l c sh zs ck ch ct cq cv (x, t) = false) (hm : n ≤ maxLen) (hr : Row w w.heap.size A n zs) :
    Calls Tryz.prog 246 #[.agg #[.bool (fl (J) 0), .bool (fl (J) 1), .bool (fl (J) 2), .bool (fl (J) 3), .bool (fl (J) 4), .bool (fl (J) 5), .bool (fl (J) 6), .bool (fl (J) 7), .bool (fl (J) 8), .bool (fl (J) 9)], .agg #[.int .i64 s, .int .i64 l, .int .i64 c, .int .i64 sh, .slice A n cap], .agg #[.int .i64 ck, .int .i64 ch, .int .i64 ct, .int .i64 cq, .int .i64 cv], .agg #[.int .i64 x, .int .i64 t]] w fun e w' => e = .returned (.agg #[.bool (fl (J) 0), .bool (fl (J) 1), .bool (fl (J) 2), .bool (fl (J) 3), .bool (fl (J) 4), .bool (fl (J) 5), .bool (fl (J) 6), .bool (fl (J) 7), .bool (fl (J) 8), .bool (fl (J) 9)]) ∧ Below w.heap.size w w' := by
  have hz : Box ((((w.alloc (.cells #[.bool (fl (J) 0), .bool (fl (J) 1), .bool (fl (J) 2), .bool (fl (J) 3), .bool (fl (J) 4), .bool (fl (J) 5), .bool (fl (J) 6), .bool (fl (J) 7), .bool (fl (J) 8), .bool (fl (J) 9)] 255)).alloc (.cells #[.int .i64 s, .int .i64 l, .int .i64 c, .int .i64 sh, .slice A n cap] 26)).alloc (.cells #[.int .i64 ck, .int .i64 ch, .int .i64 ct, .int .i64 cq, .int .i64 cv] 180)).alloc (.cells #[.int .i64 x, .int .i64 t] 136)) w.heap.size 255 #[.bool (fl (J) 0), .bool (fl (J) 1), .bool (fl (J) 2), .bool (fl (J) 3), .bool (fl (J) 4), .bool (fl (J) 5), .bool (fl (J) 6), .bool (fl (J) 7), .bool (fl (J) 8), .bool (fl (J) 9)] := (((Box.new w _ _).alloc _).alloc _).alloc _
  have DG := ((Box.new (w.alloc (.cells #[.bool (fl (J) 0), .bool (fl (J) 1), .bool (fl (J) 2), .bool (fl (J) 3), .bool (fl (J) 4), .bool (fl (J) 5), .bool (fl (J) 6), .bool (fl (J) 7), .bool (fl (J) 8), .bool (fl (J) 9)] 255)) 26 #[.int .i64 s, .int .i64 l, .int .i64 c, .int .i64 sh, .slice A n cap]).alloc (.cells #[.int .i64 ck, .int .i64 ch, .int .i64 ct, .int .i64 cq, .int .i64 cv] 180)).alloc (.cells #[.int .i64 x, .int .i64 t] 136)
  have DC := (Box.new ((w.alloc (.cells #[.bool (fl (J) 0), .bool (fl (J) 1), .bool (fl (J) 2), .bool (fl (J) 3), .bool (fl (J) 4), .bool (fl (J) 5), .bool (fl (J) 6), .bool (fl (J) 7), .bool (fl (J) 8), .bool (fl (J) 9)] 255)).alloc (.cells #[.int .i64 s, .int .i64 l, .int .i64 c, .int .i64 sh, .slice A n cap] 26)) 180 #[.int .i64 ck, .int .i64 ch, .int .i64 ct, .int .i64 cq, .int .i64 cv]).alloc (.cells #[.int .i64 x, .int .i64 t] 136)
  have DS := Box.new (((w.alloc (.cells #[.bool (fl (J) 0), .bool (fl (J) 1), .bool (fl (J) 2), .bool (fl (J) 3), .bool (fl (J) 4), .bool (fl (J) 5), .bool (fl (J) 6), .bool (fl (J) 7), .bool (fl (J) 8), .bool (fl (J) 9)] 255)).alloc (.cells #[.int .i64 s, .int .i64 l, .int .i64 c, .int .i64 sh, .slice A n cap] 26)).alloc (.cells #[.int .i64 ck, .int .i64 ch, .int .i64 ct, .int .i64 cq, .int .i64 cv] 180)) 136 #[.int .i64 x, .int .i64 t]
  have E0 := bel_trans (bel_trans (bel_trans (bel_alloc w (.cells #[.bool (fl (J) 0), .bool (fl (J) 1), .bool (fl (J) 2), .bool (fl (J) 3), .bool (fl (J) 4), .bool (fl (J) 5), .bool (fl (J) 6), .bool (fl (J) 7), .bool (fl (J) 8), .bool (fl (J) 9)] 255)) (bel_alloc _ (.cells #[.int .i64 s, .int .i64 l, .int .i64 c, .int .i64 sh, .slice A n cap] 26))) (bel_alloc _ (.cells #[.int .i64 ck, .int .i64 ch, .int .i64 ct, .int .i64 cq, .int .i64 cv] 180))) (bel_alloc _ (.cells #[.int .i64 x, .int .i64 t] 136))
  simp only [World.size_alloc] at DG DC DS
  have HR := Lib.hid hr
  have HM := Lib.hid hm
  clear hr hm
  replace hz := hz.alloc (.cells #[.bool false, .bool false, .bool false, .bool false, .bool false, .bool false, .bool false, .bool false, .bool false, .bool false] 255)
  replace DG := DG.alloc (.cells #[.bool false, .bool false, .bool false, .bool false, .bool false, .bool false, .bool false, .bool false, .bool false, .bool false] 255)
  replace DC := DC.alloc (.cells #[.bool false, .bool false, .bool false, .bool false, .bool false, .bool false, .bool false, .bool false, .bool false, .bool false] 255)
  replace DS := DS.alloc (.cells #[.bool false, .bool false, .bool false, .bool false, .bool false, .bool false, .bool false, .bool false, .bool false, .bool false] 255)
  have DR := Box.new ((((w.alloc (.cells #[.bool (fl (J) 0), .bool (fl (J) 1), .bool (fl (J) 2), .bool (fl (J) 3), .bool (fl (J) 4), .bool (fl (J) 5), .bool (fl (J) 6), .bool (fl (J) 7), .bool (fl (J) 8), .bool (fl (J) 9)] 255)).alloc (.cells #[.int .i64 s, .int .i64 l, .int .i64 c, .int .i64 sh, .slice A n cap] 26)).alloc (.cells #[.int .i64 ck, .int .i64 ch, .int .i64 ct, .int .i64 cq, .int .i64 cv] 180)).alloc (.cells #[.int .i64 x, .int .i64 t] 136)) 255 #[.bool false, .bool false, .bool false, .bool false, .bool false, .bool false, .bool false, .bool false, .bool false, .bool false]
  replace E0 := bel_trans E0 (bel_alloc _ (.cells #[.bool false, .bool false, .bool false, .bool false, .bool false, .bool false, .bool false, .bool false, .bool false, .bool false] 255))
  simp only [World.size_alloc] at DR
  have HY := Lib.hid hR
  clear hR
  go_enter Tryz.func246, Tryz.ntmps246
  go_wp2_with fail
  generalize (((((w.alloc _).alloc _).alloc _).alloc _).alloc _ : World) = w1 at E0 hz DG DC DS DR ⊢
  refine (rightB_is HY.out A n cap w1 HM.out ((HR.out.below E0 (Nat.le_refl _)).more E0.size)).mono ?_
  rintro e w2 ⟨rfl, hb2⟩
  have E2 := bel_trans E0 hb2
  have hz2 := hz.later hb2 hz.lt
  have DR2 := DR.later hb2 DR.lt
  obtain ⟨d0, d1, d2, d3, d4, d5, d6, d7, d8, d9⟩ := hz2.ten'
  obtain ⟨r0, r1, r2, r3, r4, r5, r6, r7, r8, r9⟩ := DR2.ten'
  have fr := DR2.frozen
  clear hz DG DC DS DR E0 hb2
  go_wp2
  refine bodyPost_ret (v := .agg #[.bool (fl (J) 0), .bool (fl (J) 1), .bool (fl (J) 2), .bool (fl (J) 3), .bool (fl (J) 4), .bool (fl (J) 5), .bool (fl (J) 6), .bool (fl (J) 7), .bool (fl (J) 8), .bool (fl (J) 9)]) (by simp [results, Tryz.results246, go_sem, r0, r1, r2, r3, r4, r5, r6, r7, r8, r9]) rfl ⟨rfl, ?_⟩
  exact bel_ten E2 (by omega) _ _ _ _ _ _ _ _ _ _

set_option maxRecDepth 100000 in
set_option maxHeartbeats 1000000 in
theorem and_yes (J : List (Int × Int)) (s l c sh : Int) (A : Option Addr) (n cap : Nat) (zs : List Int) (ck ch ct cq cv x t : Int) (w : World) (hR : rB s l c sh zs ck ch ct cq cv (x, t) = true) (hm : n ≤ maxLen) (hr : Row w w.heap.size A n zs) :
    Calls Tryz.prog 246 #[.agg #[.bool (fl (J) 0), .bool (fl (J) 1), .bool (fl (J) 2), .bool (fl (J) 3), .bool (fl (J) 4), .bool (fl (J) 5), .bool (fl (J) 6), .bool (fl (J) 7), .bool (fl (J) 8), .bool (fl (J) 9)], .agg #[.int .i64 s, .int .i64 l, .int .i64 c, .int .i64 sh, .slice A n cap], .agg #[.int .i64 ck, .int .i64 ch, .int .i64 ct, .int .i64 cq, .int .i64 cv], .agg #[.int .i64 x, .int .i64 t]] w fun e w' => e = .returned (.agg #[.bool (fl (put J (x, t)) 0), .bool (fl (put J (x, t)) 1), .bool (fl (put J (x, t)) 2), .bool (fl (put J (x, t)) 3), .bool (fl (put J (x, t)) 4), .bool (fl (put J (x, t)) 5), .bool (fl (put J (x, t)) 6), .bool (fl (put J (x, t)) 7), .bool (fl (put J (x, t)) 8), .bool (fl (put J (x, t)) 9)]) ∧ Below w.heap.size w w' := by
  have hz : Box ((((w.alloc (.cells #[.bool (fl (J) 0), .bool (fl (J) 1), .bool (fl (J) 2), .bool (fl (J) 3), .bool (fl (J) 4), .bool (fl (J) 5), .bool (fl (J) 6), .bool (fl (J) 7), .bool (fl (J) 8), .bool (fl (J) 9)] 255)).alloc (.cells #[.int .i64 s, .int .i64 l, .int .i64 c, .int .i64 sh, .slice A n cap] 26)).alloc (.cells #[.int .i64 ck, .int .i64 ch, .int .i64 ct, .int .i64 cq, .int .i64 cv] 180)).alloc (.cells #[.int .i64 x, .int .i64 t] 136)) w.heap.size 255 #[.bool (fl (J) 0), .bool (fl (J) 1), .bool (fl (J) 2), .bool (fl (J) 3), .bool (fl (J) 4), .bool (fl (J) 5), .bool (fl (J) 6), .bool (fl (J) 7), .bool (fl (J) 8), .bool (fl (J) 9)] := (((Box.new w _ _).alloc _).alloc _).alloc _
  have DG := ((Box.new (w.alloc (.cells #[.bool (fl (J) 0), .bool (fl (J) 1), .bool (fl (J) 2), .bool (fl (J) 3), .bool (fl (J) 4), .bool (fl (J) 5), .bool (fl (J) 6), .bool (fl (J) 7), .bool (fl (J) 8), .bool (fl (J) 9)] 255)) 26 #[.int .i64 s, .int .i64 l, .int .i64 c, .int .i64 sh, .slice A n cap]).alloc (.cells #[.int .i64 ck, .int .i64 ch, .int .i64 ct, .int .i64 cq, .int .i64 cv] 180)).alloc (.cells #[.int .i64 x, .int .i64 t] 136)
  have DC := (Box.new ((w.alloc (.cells #[.bool (fl (J) 0), .bool (fl (J) 1), .bool (fl (J) 2), .bool (fl (J) 3), .bool (fl (J) 4), .bool (fl (J) 5), .bool (fl (J) 6), .bool (fl (J) 7), .bool (fl (J) 8), .bool (fl (J) 9)] 255)).alloc (.cells #[.int .i64 s, .int .i64 l, .int .i64 c, .int .i64 sh, .slice A n cap] 26)) 180 #[.int .i64 ck, .int .i64 ch, .int .i64 ct, .int .i64 cq, .int .i64 cv]).alloc (.cells #[.int .i64 x, .int .i64 t] 136)
  have DS := Box.new (((w.alloc (.cells #[.bool (fl (J) 0), .bool (fl (J) 1), .bool (fl (J) 2), .bool (fl (J) 3), .bool (fl (J) 4), .bool (fl (J) 5), .bool (fl (J) 6), .bool (fl (J) 7), .bool (fl (J) 8), .bool (fl (J) 9)] 255)).alloc (.cells #[.int .i64 s, .int .i64 l, .int .i64 c, .int .i64 sh, .slice A n cap] 26)).alloc (.cells #[.int .i64 ck, .int .i64 ch, .int .i64 ct, .int .i64 cq, .int .i64 cv] 180)) 136 #[.int .i64 x, .int .i64 t]
  have E0 := bel_trans (bel_trans (bel_trans (bel_alloc w (.cells #[.bool (fl (J) 0), .bool (fl (J) 1), .bool (fl (J) 2), .bool (fl (J) 3), .bool (fl (J) 4), .bool (fl (J) 5), .bool (fl (J) 6), .bool (fl (J) 7), .bool (fl (J) 8), .bool (fl (J) 9)] 255)) (bel_alloc _ (.cells #[.int .i64 s, .int .i64 l, .int .i64 c, .int .i64 sh, .slice A n cap] 26))) (bel_alloc _ (.cells #[.int .i64 ck, .int .i64 ch, .int .i64 ct, .int .i64 cq, .int .i64 cv] 180))) (bel_alloc _ (.cells #[.int .i64 x, .int .i64 t] 136))
  simp only [World.size_alloc] at DG DC DS
  have HR := Lib.hid hr
  have HM := Lib.hid hm
  clear hr hm
  replace hz := hz.alloc (.cells #[.bool false, .bool false, .bool false, .bool false, .bool false, .bool false, .bool false, .bool false, .bool false, .bool false] 255)
  replace DG := DG.alloc (.cells #[.bool false, .bool false, .bool false, .bool false, .bool false, .bool false, .bool false, .bool false, .bool false, .bool false] 255)
  replace DC := DC.alloc (.cells #[.bool false, .bool false, .bool false, .bool false, .bool false, .bool false, .bool false, .bool false, .bool false, .bool false] 255)
  replace DS := DS.alloc (.cells #[.bool false, .bool false, .bool false, .bool false, .bool false, .bool false, .bool false, .bool false, .bool false, .bool false] 255)
  have DR := Box.new ((((w.alloc (.cells #[.bool (fl (J) 0), .bool (fl (J) 1), .bool (fl (J) 2), .bool (fl (J) 3), .bool (fl (J) 4), .bool (fl (J) 5), .bool (fl (J) 6), .bool (fl (J) 7), .bool (fl (J) 8), .bool (fl (J) 9)] 255)).alloc (.cells #[.int .i64 s, .int .i64 l, .int .i64 c, .int .i64 sh, .slice A n cap] 26)).alloc (.cells #[.int .i64 ck, .int .i64 ch, .int .i64 ct, .int .i64 cq, .int .i64 cv] 180)).alloc (.cells #[.int .i64 x, .int .i64 t] 136)) 255 #[.bool false, .bool false, .bool false, .bool false, .bool false, .bool false, .bool false, .bool false, .bool false, .bool false]
  replace E0 := bel_trans E0 (bel_alloc _ (.cells #[.bool false, .bool false, .bool false, .bool false, .bool false, .bool false, .bool false, .bool false, .bool false, .bool false] 255))
  simp only [World.size_alloc] at DR
  have HY := Lib.hid hR
  have hx0 : 0 ≤ x := (rB_who hR).1
  have hx1 : x < 10 := Int.lt_of_lt_of_le (rB_who hR).2.1 (rB_who hR).2.2
  clear hR
  go_enter Tryz.func246, Tryz.ntmps246
  go_wp2_with fail
  generalize (((((w.alloc _).alloc _).alloc _).alloc _).alloc _ : World) = w1 at E0 hz DG DC DS DR ⊢
  refine (rightB_is HY.out A n cap w1 HM.out ((HR.out.below E0 (Nat.le_refl _)).more E0.size)).mono ?_
  rintro e w2 ⟨rfl, hb2⟩
  have E2 := bel_trans E0 hb2
  have hz2 := hz.later hb2 hz.lt
  have DR2 := DR.later hb2 DR.lt
  have DS2 := DS.later hb2 DS.lt
  obtain ⟨s0, s1⟩ := DS2.two
  have cx : w2.cell? ⟨w.heap.size, x.toNat, none⟩ = some (.bool (fl J x.toNat)) := by
    rw [hz2.cell]
    have hc : x = 0 ∨ x = 1 ∨ x = 2 ∨ x = 3 ∨ x = 4 ∨ x = 5 ∨ x = 6 ∨ x = 7 ∨ x = 8 ∨ x = 9 := by omega
    rcases hc with rfl | rfl | rfl | rfl | rfl | rfl | rfl | rfl | rfl | rfl <;> rfl
  have fz := hz2.frozen
  have HF := Lib.hid (hz2.flag x t ⟨hx0, hx1⟩)
  have HD := Lib.hid (DR2.far (p := ⟨w.heap.size, x.toNat, none⟩) (by simp; omega) (.bool true))
  have HE := Lib.hid (E2.setCell (p := ⟨w.heap.size, x.toNat, none⟩) (Nat.le_refl _) (.bool true))
  clear hz DG DC DS DR E0 hb2 hz2 DR2 E2
  go_upto_region 3 with fail
  generalize (w2.setCell _ _ : World) = w3 at HF HD HE ⊢
  have DR3 := HD.out
  obtain ⟨d0, d1, d2, d3, d4, d5, d6, d7, d8, d9⟩ := HF.out.ten'
  obtain ⟨r0, r1, r2, r3, r4, r5, r6, r7, r8, r9⟩ := HD.out.ten'
  have fr := DR3.frozen
  go_wp2
  refine bodyPost_ret (v := .agg #[.bool (fl (put J (x, t)) 0), .bool (fl (put J (x, t)) 1), .bool (fl (put J (x, t)) 2), .bool (fl (put J (x, t)) 3), .bool (fl (put J (x, t)) 4), .bool (fl (put J (x, t)) 5), .bool (fl (put J (x, t)) 6), .bool (fl (put J (x, t)) 7), .bool (fl (put J (x, t)) 8), .bool (fl (put J (x, t)) 9)]) (by simp [results, Tryz.results246, go_sem, r0, r1, r2, r3, r4, r5, r6, r7, r8, r9]) rfl ⟨rfl, ?_⟩
  exact bel_ten HE.out (by omega) _ _ _ _ _ _ _ _ _ _

end Go.Proofs.YtjdepjpjjgkmbaaGreat

/- The flags of who sealed are compared: a contract of the comparison; no conditions. -/
namespace Go.Proofs.YtjdepjpjjgkmbaaGreat
open Go.RowKit

theorem Tryz.infoBool : ∃ i, Tryz.prog.info? 4 = some i ∧ i.size = 1 := by
  obtain ⟨i, hi, hzz⟩ := Option.map_eq_some_iff.1 (show (Tryz.prog.info? 4).map (fun i => i.size) = some 1 by kernel_rfl)
  exact ⟨i, hi, hzz⟩

theorem eqItems_step (xs ys : Array Value) (i : Nat) (is : List Nat) (a b : Bool) (w : World) (hc : Tryz.prog.cellsOf 4 = 1) (ha : (part 4 xs i).run Tryz.prog w = .ok (.bool a) w) (hb : (part 4 ys i).run Tryz.prog w = .ok (.bool b) w) :
    (Op.eqItems 9999 4 (Tryz.prog.cellsOf 4) xs ys (i :: is)).run Tryz.prog w = if a = b then (Op.eqItems 9999 4 (Tryz.prog.cellsOf 4) xs ys is).run Tryz.prog w else .ok false w := by
  rw [hc]
  simp only [Op.eqItems, Nat.mul_one, Sem.run_bind, ha, hb, Result.andThen_ok, run_equalIn_bool w 9998 4 a b Tryz.underlying4]
  by_cases h : a = b
  · subst h; simp
  · have : (a == b) = false := by simpa using h
    simp [this, h]

theorem part_flag (cs : Array Value) (i : Nat) (v : Value) (w : World) (h : cs[i]? = some v) : (part 4 cs i).run Tryz.prog w = .ok v w := by
  obtain ⟨i0, hi, hs⟩ := Tryz.infoBool
  simp [part, typeInfo, sizeOf, hi, hs, h, isAgg, run_underlying Tryz.underlying4]

theorem Tryz.cellsBool : Tryz.prog.cellsOf 4 = 1 := by kernel_rfl

/-- All of these places, from k on. -/
theorem eqItems_all (J J' : List (Int × Int)) (w : World) : ∀ (is : List Nat), (∀ i ∈ is, i < 10) →
    (Op.eqItems 9999 4 (Tryz.prog.cellsOf 4) #[.bool (fl (J) 0), .bool (fl (J) 1), .bool (fl (J) 2), .bool (fl (J) 3), .bool (fl (J) 4), .bool (fl (J) 5), .bool (fl (J) 6), .bool (fl (J) 7), .bool (fl (J) 8), .bool (fl (J) 9)] #[.bool (fl (J') 0), .bool (fl (J') 1), .bool (fl (J') 2), .bool (fl (J') 3), .bool (fl (J') 4), .bool (fl (J') 5), .bool (fl (J') 6), .bool (fl (J') 7), .bool (fl (J') 8), .bool (fl (J') 9)] is).run Tryz.prog w = .ok (is.all fun i => fl J i == fl J' i) w
  | [], _ => by simp [Op.eqItems]
  | i :: is, h => by
    have hi : i < 10 := h i (by simp)
    have hat : ∀ K : List (Int × Int), (#[.bool (fl (K) 0), .bool (fl (K) 1), .bool (fl (K) 2), .bool (fl (K) 3), .bool (fl (K) 4), .bool (fl (K) 5), .bool (fl (K) 6), .bool (fl (K) 7), .bool (fl (K) 8), .bool (fl (K) 9)] : Array Value)[i]? = some (.bool (fl K i)) := fun K => by
      have hc : i = 0 ∨ i = 1 ∨ i = 2 ∨ i = 3 ∨ i = 4 ∨ i = 5 ∨ i = 6 ∨ i = 7 ∨ i = 8 ∨ i = 9 := by omega
      rcases hc with rfl | rfl | rfl | rfl | rfl | rfl | rfl | rfl | rfl | rfl <;> rfl
    rw [eqItems_step _ _ i is (fl J i) (fl J' i) w Tryz.cellsBool (part_flag _ _ _ _ (hat J)) (part_flag _ _ _ _ (hat J')), eqItems_all J J' w is (fun j hj => h j (by simp [hj]))]
    by_cases e : fl J i = fl J' i
    · simp [e]
    · have : (fl J i == fl J' i) = false := by simpa using e
      simp [e]

/-- The same flags. -/
theorem eqFlags_same (J : List (Int × Int)) (w : World) : (Op.equalIn 10000 255 (.agg #[.bool (fl (J) 0), .bool (fl (J) 1), .bool (fl (J) 2), .bool (fl (J) 3), .bool (fl (J) 4), .bool (fl (J) 5), .bool (fl (J) 6), .bool (fl (J) 7), .bool (fl (J) 8), .bool (fl (J) 9)]) (.agg #[.bool (fl (J) 0), .bool (fl (J) 1), .bool (fl (J) 2), .bool (fl (J) 3), .bool (fl (J) 4), .bool (fl (J) 5), .bool (fl (J) 6), .bool (fl (J) 7), .bool (fl (J) 8), .bool (fl (J) 9)])).run Tryz.prog w = .ok true w := by
  obtain ⟨i0, hi, _⟩ := Tryz.infoBool
  rw [run_equalIn_array w 9999 _ _ Tryz.underlying255 hi, eqItems_all J J w _ (fun i hi => by simpa using hi)]
  simp
/-- One more flag. -/
theorem eqFlags_more (J J' : List (Int × Int)) (k : Nat) (hk : k < 10) (h : fl J k = false) (h' : fl J' k = true) (w : World) : (Op.equalIn 10000 255 (.agg #[.bool (fl (J') 0), .bool (fl (J') 1), .bool (fl (J') 2), .bool (fl (J') 3), .bool (fl (J') 4), .bool (fl (J') 5), .bool (fl (J') 6), .bool (fl (J') 7), .bool (fl (J') 8), .bool (fl (J') 9)]) (.agg #[.bool (fl (J) 0), .bool (fl (J) 1), .bool (fl (J) 2), .bool (fl (J) 3), .bool (fl (J) 4), .bool (fl (J) 5), .bool (fl (J) 6), .bool (fl (J) 7), .bool (fl (J) 8), .bool (fl (J) 9)])).run Tryz.prog w = .ok false w := by
  obtain ⟨i0, hi, _⟩ := Tryz.infoBool
  rw [run_equalIn_array w 9999 _ _ Tryz.underlying255 hi, eqItems_all J' J w _ (fun i hi => by simpa using hi)]
  have : (List.range 10).all (fun i => fl J' i == fl J i) = false := by
    rw [List.all_eq_false]
    exact ⟨k, by simpa using hk, by rw [h, h']; simp⟩
  rw [this]

end Go.Proofs.YtjdepjpjjgkmbaaGreat
