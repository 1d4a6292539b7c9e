/- Words of the library's stable sort: a list that is made of runs in order; no conditions. -/
import Derived.Test.YtjdepjpjjgkmbaaGreatStampBase
import Derived.Test.YtjdepjpjjgkmbaaGreatSortMerge
import Derived.Test.YtjdepjpjjgkmbaaGreatSortSym
import Derived.Lib.SliceRun
import Derived.Laws.IdiomCopy
namespace Go.Proofs.YtjdepjpjjgkmbaaGreat
open Go.RowKit

/-- Runs in order, each of k, the last one of k or fewer. -/
inductive Runs (k : Nat) : List (Int × Int) → Prop
  | last {l : List (Int × Int)} : l.length ≤ k → Srt l → Runs k l
  | cons {x l : List (Int × Int)} : x.length = k → Srt x → Runs k l → Runs k (x ++ l)
/-- Runs in order, each of k. -/
inductive Full (k : Nat) : List (Int × Int) → Prop
  | nil : Full k []
  | snoc {l x : List (Int × Int)} : Full k l → x.length = k → Srt x → Full k (l ++ x)
theorem Runs.nil (k : Nat) : Runs k [] := .last (Nat.zero_le _) (by simp [Srt])
theorem Full.runs {k : Nat} {l r : List (Int × Int)} (h : Full k l) (hr : Runs k r) : Runs k (l ++ r) := by
  induction h generalizing r with
  | nil => exact hr
  | snoc _ hx hs ih => rw [List.append_assoc]; exact ih (.cons hx hs hr)
theorem Runs.small {k : Nat} {l : List (Int × Int)} (h : Runs k l) (hl : l.length ≤ k) : Srt l := by
  cases h with
  | last _ hs => exact hs
  | cons hx hs hr =>
    rename_i x r
    rw [List.length_append] at hl
    rw [List.length_eq_zero_iff.1 (by omega : r.length = 0), List.append_nil]
    exact hs
theorem Runs.split {k : Nat} {l : List (Int × Int)} (h : Runs k l) (hl : k < l.length) : ∃ x r, l = x ++ r ∧ x.length = k ∧ Srt x ∧ Runs k r := by
  cases h with
  | last hk _ => omega
  | cons hx hs hr => exact ⟨_, _, rfl, hx, hs, hr⟩
/-- The first two runs. -/
theorem Runs.two {k : Nat} {l : List (Int × Int)} (h0 : 0 < k) (h : Runs k l) (hl : k * 2 ≤ l.length) : ∃ x y r, l = x ++ (y ++ r) ∧ x.length = k ∧ y.length = k ∧ Srt x ∧ Srt y ∧ Runs k r := by
  obtain ⟨x, r, rfl, hx, hs, hr⟩ := h.split (by omega)
  rw [List.length_append] at hl
  rcases Nat.lt_or_ge k r.length with h | h
  · obtain ⟨y, r', rfl, hy, hs', hr'⟩ := hr.split h
    exact ⟨x, y, r', rfl, hx, hy, hs, hs', hr'⟩
  · exact ⟨x, r, [], by simp, hx, by omega, hs, hr.small h, Runs.nil k⟩

end Go.Proofs.YtjdepjpjjgkmbaaGreat

/- The library's stable sort over a slice of pairs: what was there is in order then, alike ones in the order that they had. -/
namespace Go.Proofs.YtjdepjpjjgkmbaaGreat
open Go.RowKit

/-- What a stable sort of all leaves. -/
def Stable (w : World) (g : Nat) (L : List (Int × Int)) (e : Ending) (w' : World) : Prop :=
  ∃ S : List (Int × Int), S.length = L.length ∧ Srt S ∧ Same S L ∧ Does w g S e w'

set_option maxRecDepth 100000 in
set_option maxHeartbeats 2000000 in
theorem stable_is (g n cap : Nat) (L : List (Int × Int)) (w : World) (hn : n ≤ 4194304) (hl : L.length = n) (H : Held w g L) :
    Calls Tryz.prog 256 #[.slice (some ⟨g, 0, none⟩) n cap, .int .i64 n, (.func (Fn.func 250) #[] #[])] w (Stable w g L) := by
  have HH := Lib.hid H
  have hl := Lib.hid hl
  rename_i q
  clear H q
  go_enter Tryz.func256, Tryz.ntmps256
  go_wp2_with fail
  go_loopw [7, 8] (fun av bv wr => ∃ (a b : Nat) (D R : List (Int × Int)), av = .int .i64 a ∧ bv = .int .i64 b ∧ a + 20 = b ∧ a ≤ n ∧ D.length = a ∧ a + R.length = n ∧ Full 20 D ∧ Same (D ++ R) L ∧ Held wr g (D ++ R) ∧ w.grownBy wr (some g)) (fun a _ _ => n - (intOf a).toNat)
  case atStart => exact ⟨0, 20, [], L, rfl, rfl, rfl, Nat.zero_le _, rfl, by rw [hl.out]; omega, .nil, Same.refl _, HH.out, grown_refl _ _⟩
  case round =>
    obtain ⟨a, b, D, R, rfl, rfl, hab, han, hD, hR, hF, hS, hh, hg⟩ := hrel
    by_cases hbn : b ≤ n
    · have hbn' : (b : Int) ≤ (n : Int) := by omega
      obtain ⟨c, hc, hc'⟩ : ∃ c : Nat, (b : Int) + 20 = (c : Int) ∧ b + 20 = c := ⟨b + 20, by omega, rfl⟩
      have hc' := Lib.hid hc'
      have hab := Lib.hid hab
      have hD := Lib.hid hD
      have hR := Lib.hid hR
      rename_i q1 q2 q3 q4
      clear q1 q2 q3 q4
      go_wp2_with fail
      refine (insSort_is g n cap _ _ D (R.take 20) (R.drop 20) _ hn (by have := hab.out; have := hD.out; have := hR.out; simp; omega) (by have := hD.out; omega) (by have := hab.out; have := hD.out; have := hR.out; simp; omega) (by rw [List.take_append_drop]; exact hh)).mono ?_
      rintro e w1 ⟨Z, hz1, hz2, hz3, rfl, hh1, hg1⟩
      have hz1 := Lib.hid hz1
      rename_i q1
      clear q1
      go_wp2
      go_roundw
      case rel =>
        have e1 := hab.out
        have e2 := hD.out
        have e3 := hR.out
        have e4 := hz1.out
        have e5 := hc'.out
        rw [List.length_take] at e4
        refine ⟨b, c, D ++ Z, R.drop 20, rfl, rfl, e5, hbn, by simp; omega, by simp; omega, .snoc hF (by omega) hz2, ?_, by simpa using hh1, grown_trans hg hg1⟩
        refine Same.trans ?_ hS
        rw [List.append_assoc]
        refine (Same.refl D).app ?_
        have := hz3.app (Same.refl (R.drop 20))
        rwa [List.take_append_drop] at this
      case measure => have := hab.out; simp [intOf]; omega
    · have hbn' : ¬ (b : Int) ≤ (n : Int) := by omega
      have hD := Lib.hid hD
      have hR := Lib.hid hR
      have hab := Lib.hid hab
      rename_i q1 q2 q3
      clear q1 q2 q3
      go_wp2_with fail
      refine (insSort_is g n cap _ _ D R [] _ hn (by have := hD.out; have := hR.out; simp; omega) (by have := hD.out; omega) (by have := hD.out; have := hR.out; omega) (by simpa using hh)).mono ?_
      rintro e w1 ⟨Z, hz1, hz2, hz3, rfl, hh1, hg1⟩
      have hstart : ∃ E : List (Int × Int), E.length = n ∧ Runs 20 E ∧ Same E L ∧ Held w1 g E := by
        have e1 := hab.out
        have e2 := hD.out
        have e3 := hR.out
        exact ⟨D ++ Z, by simp; omega, hF.runs (.last (by omega) hz2), ((Same.refl D).app hz3).trans hS, by simpa using hh1⟩
      have hgs := grown_trans hg hg1
      have hstart := Lib.hid hstart
      rename_i q1
      clear q1 hz1 hz2 hz3 hh1 hg1 hg hh hS hF hR hD hab
      go_wp2_with fail
      go_loopw [6] (fun kv wr => ∃ (k : Nat) (E : List (Int × Int)), kv = .int .i64 k ∧ 0 < k ∧ k ≤ 8388608 ∧ E.length = n ∧ Runs k E ∧ Same E L ∧ Held wr g E ∧ w.grownBy wr (some g)) (fun k _ => n - (intOf k).toNat)
      case atStart =>
        obtain ⟨E, h1, h2, h3, h4⟩ := hstart.out
        exact ⟨20, E, rfl, by omega, by omega, h1, h2, h3, h4, hgs⟩
      case round =>
        obtain ⟨k, E, rfl, hk0, hk1, hE, hruns, hS, hh, hg⟩ := hrel
        have hE := Lib.hid hE
        rename_i q1
        clear q1
        by_cases hkn : k < n
        · have hkn' : (k : Int) < (n : Int) := by omega
          obtain ⟨k2, hk2, hk2'⟩ : ∃ k2 : Nat, 2 * (k : Int) = (k2 : Int) ∧ k * 2 = k2 := ⟨k * 2, by omega, rfl⟩
          have hk3 : (k : Int) * 2 = (k2 : Int) := by omega
          have hk2' := Lib.hid hk2'
          rename_i q1
          clear q1
          have hk4 : k2 ≤ 8388608 := by have := hk2'.out; omega
          go_wp2_with fail
          go_loopw [7, 8] (fun av bv wr => ∃ (a b : Nat) (D R : List (Int × Int)), av = .int .i64 a ∧ bv = .int .i64 b ∧ a + k2 = b ∧ a ≤ n ∧ D.length = a ∧ a + R.length = n ∧ Full k2 D ∧ Runs k R ∧ Same (D ++ R) L ∧ Held wr g (D ++ R) ∧ w.grownBy wr (some g)) (fun a _ _ => n - (intOf a).toNat)
          case atStart => exact ⟨0, k2, [], E, rfl, rfl, by omega, Nat.zero_le _, rfl, by rw [hE.out]; omega, .nil, hruns, hS, hh, hg⟩
          case round =>
            obtain ⟨a, b, D, R, rfl, rfl, hab, han, hD, hR, hF, hruns, hS, hh, hg⟩ := hrel
            have hab := Lib.hid hab
            have hD := Lib.hid hD
            have hR := Lib.hid hR
            rename_i q1 q2 q3
            clear q1 q2 q3
            by_cases hbn : b ≤ n
            · have hbn' : (b : Int) ≤ (n : Int) := by omega
              obtain ⟨c, hc, hc'⟩ : ∃ c : Nat, (b : Int) + (k2 : Int) = (c : Int) ∧ b + k2 = c := ⟨b + k2, by omega, rfl⟩
              have hc' := Lib.hid hc'
              rename_i q1
              clear q1
              obtain ⟨x, y, r, hxy, hx, hy, hsx, hsy, hrr⟩ := hruns.two hk0 (by have := hab.out; have := hR.out; have := hk2'.out; omega)
              subst hxy
              have hR' := hR.out
              simp only [List.length_append] at hR'
              have hR' := Lib.hid hR'
              have hx := Lib.hid hx
              have hy := Lib.hid hy
              rename_i q1 q2 q3
              clear q1 q2 q3
              go_wp2_with fail
              refine (symMerge_is g n cap hn (x.length + y.length + 1) _ _ _ D x y r _ (by omega) (by have := hD.out; have := hR'.out; omega) (by have := hD.out; omega) (by have := hD.out; have := hx.out; omega) (by have := hab.out; have := hD.out; have := hx.out; have := hy.out; have := hk2'.out; omega) (by have := hx.out; omega) (by have := hy.out; omega) hsx hsy hh).mono ?_
              rintro e w1 ⟨Z, hz1, hz2, hz3, rfl, hh1, hg1⟩
              have hz1 := Lib.hid hz1
              rename_i q1
              clear q1
              go_wp2
              go_roundw
              case rel =>
                have e1 := hab.out
                have e2 := hD.out
                have e3 := hR'.out
                have e4 := hz1.out
                have e5 := hc'.out
                have e6 := hx.out
                have e7 := hy.out
                have e8 := hk2'.out
                rw [List.length_append] at e4
                refine ⟨b, c, D ++ Z, r, rfl, rfl, e5, hbn, by simp; omega, by omega, .snoc hF (by omega) hz2, hrr, ?_, by simpa using hh1, grown_trans hg hg1⟩
                refine Same.trans ?_ hS
                rw [List.append_assoc]
                refine (Same.refl D).app ?_
                have := hz3.app (Same.refl r)
                rwa [List.append_assoc x] at this
              case measure => have := hab.out; simp [intOf]; omega
            · have hbn' : ¬ (b : Int) ≤ (n : Int) := by omega
              obtain ⟨m, hm, hm'⟩ : ∃ m : Nat, (a : Int) + (k : Int) = (m : Int) ∧ a + k = m := ⟨a + k, by omega, rfl⟩
              have hm' := Lib.hid hm'
              rename_i q1
              clear q1
              by_cases hmn : m < n
              · have hmn' : (m : Int) < (n : Int) := by omega
                obtain ⟨x, y, hxy, hx, hsx, hry⟩ := hruns.split (by have := hR.out; have := hm'.out; omega)
                subst hxy
                have hR' := hR.out
                simp only [List.length_append] at hR'
                have hsy := hry.small (by have := hab.out; have := hk2'.out; omega)
                have hR' := Lib.hid hR'
                have hx := Lib.hid hx
                rename_i q1 q2
                clear q1 q2
                go_wp2_with fail
                refine (symMerge_is g n cap hn (x.length + y.length + 1) _ _ _ D x y [] _ (by omega) (by have := hD.out; have := hR'.out; simp; omega) (by have := hD.out; omega) (by have := hD.out; have := hx.out; have := hm'.out; omega) (by have := hD.out; have := hR'.out; omega) (by have := hx.out; omega) (by have := hR'.out; have := hx.out; have := hm'.out; omega) hsx hsy (by simpa using hh)).mono ?_
                rintro e w1 ⟨Z, hz1, hz2, hz3, rfl, hh1, hg1⟩
                have hz1 := Lib.hid hz1
                rename_i q1
                clear q1
                go_wp2
                go_roundw
                case rel =>
                  have e1 := hab.out
                  have e2 := hD.out
                  have e3 := hR'.out
                  have e4 := hz1.out
                  have e6 := hx.out
                  have e8 := hk2'.out
                  rw [List.length_append] at e4
                  exact ⟨k2, D ++ Z, rfl, by omega, hk4, by simp; omega, hF.runs (.last (by omega) hz2), ((Same.refl D).app hz3).trans hS, by simpa using hh1, grown_trans hg hg1⟩
                case measure => have := hk2'.out; simp [intOf]; omega
              · have hmn' : ¬ (m : Int) < (n : Int) := by omega
                have hsr := hruns.small (by have := hR.out; have := hm'.out; omega)
                go_wp2
                go_roundw
                case rel =>
                  have e2 := hD.out
                  have e3 := hR.out
                  have e5 := hm'.out
                  have e8 := hk2'.out
                  exact ⟨k2, D ++ R, rfl, by omega, hk4, by simp; omega, hF.runs (.last (by omega) hsr), hS, hh, hg⟩
                case measure => have := hk2'.out; simp [intOf]; omega
        · have hkn' : ¬ (k : Int) < (n : Int) := by omega
          go_wp2
          go_end0
          exact ⟨E, by rw [hE.out, hl.out], hruns.small (by rw [hE.out]; omega), hS, rfl, hh, hg⟩

end Go.Proofs.YtjdepjpjjgkmbaaGreat

/- The library's CompactFunc over a slice of pairs: of those with one first number side by side the first stays. -/
namespace Go.Proofs.YtjdepjpjjgkmbaaGreat
open Go.RowKit

theorem eqWho_any (a b c d : Int) (w : World) :
    Calls Tryz.prog 252 #[.agg #[.int .i64 a, .int .i64 b], .agg #[.int .i64 c, .int .i64 d]] w fun e w' => e = .returned (.bool (a == c)) ∧ Below w.heap.size w w' := by
  have hb := bel_trans (bel_alloc w (.cells #[.int .i64 a, .int .i64 b] 136)) (bel_alloc _ (.cells #[.int .i64 c, .int .i64 d] 136))
  have D := ((Box.new w 136 #[.int .i64 a, .int .i64 b]).alloc (.cells #[.int .i64 c, .int .i64 d] 136)).two
  have X := (Box.new (w.alloc (.cells #[.int .i64 a, .int .i64 b] 136)) 136 #[.int .i64 c, .int .i64 d]).two
  simp only [World.size_alloc] at X
  obtain ⟨d0, _⟩ := D
  obtain ⟨x0, _⟩ := X
  go_enter Tryz.func252, Tryz.ntmps252
  go_wp2
  go_ret
  exact ⟨rfl, hb⟩
theorem eqWho_is {a c : Int} {t : Bool} (h : (a == c) = t) (b d : Int) (w : World) :
    Calls Tryz.prog 252 #[.agg #[.int .i64 a, .int .i64 b], .agg #[.int .i64 c, .int .i64 d]] w fun e w' => e = .returned (.bool t) ∧ Below w.heap.size w w' := by
  rw [← h]
  exact eqWho_any a b c d w

theorem Tryz.zeroSeal : ∀ w, (zeroValue 136).run Tryz.prog w = .ok (.agg #[.int .i64 0, .int .i64 0]) w := by
  intro w
  obtain ⟨i, hi, hzz⟩ := Option.map_eq_some_iff.1 (show (Tryz.prog.info? 136).map (fun i => (i.zero, i.size, i.bytes)) = some (some (.agg #[.int .i64 0, .int .i64 0]), 2, 16) by kernel_rfl)
  simp only [Prod.mk.injEq] at hzz
  simp [zeroValue, typeInfo, hi, hzz.1]

/-- Pairs are cleared: the cells ahead of them stay. -/
theorem clear_pairs (w : World) (ty : TypeId) (g i m c : Nat) (d : List (Int × Int)) (hm : 0 < m) (hd : i + m ≤ d.length) (H : Held w g d) :
    ∃ vs : List Value, (Builtin.clear_ #[40] ty #[.slice (some ⟨g, i * 2, none⟩) m c]).run Tryz.prog w = .ok (.tuple #[]) (w.setCells g (i * 2) vs) := by
  have hz : (Value.agg #[.int .i64 0, .int .i64 0]).cells = #[.int .i64 0, .int .i64 0] := by rfl
  have hall : ∀ v ∈ (Builtin.zeroCells #[.int .i64 0, .int .i64 0] m).toList, v.oneCell' = true := by
    intro v hv
    simp only [Builtin.zeroCells, Array.toList_map, List.mem_map] at hv
    obtain ⟨j, _, rfl⟩ := hv
    have hj : j % 2 = 0 ∨ j % 2 = 1 := by omega
    rcases hj with hj | hj <;> simp [hj, Value.oneCell']
  have hlen : (Builtin.zeroCells #[.int .i64 0, .int .i64 0] m).toList.length = m * 2 := by simp [Builtin.zeroCells]
  have hst := run_storeCells_cells (P := Tryz.prog) g (i * 2) (Builtin.zeroCells #[.int .i64 0, .int .i64 0] m).toList 0 w (fun j hj => by
    rw [hlen] at hj
    have h2 : j % 2 = 0 ∨ j % 2 = 1 := by omega
    rcases h2 with h2 | h2
    · rw [show i * 2 + 0 + j = (i + j / 2) * 2 by omega, H.at0 _ (by omega)]; rfl
    · rw [show i * 2 + 0 + j = (i + j / 2) * 2 + 1 by omega, H.at1 _ (by omega)]; rfl) (fun j _ => H.fr _) hall
  simp only [Nat.add_zero] at hst
  refine ⟨(Builtin.zeroCells #[.int .i64 0, .int .i64 0] m).toList, ?_⟩
  obtain ⟨k, rfl⟩ : ∃ k, m = k + 1 := ⟨m - 1, by omega⟩
  simp [Builtin.clear_, run_underlying Tryz.underlying40, hz, hst]
theorem size_setCells (w : World) (g o : Nat) (vs : List Value) : (w.setCells g o vs).heap.size = w.heap.size := by
  induction vs generalizing w o with
  | nil => rfl
  | cons v vs ih => rw [World.setCells, ih, size_set]
theorem Held.cut {w : World} {g i : Nat} {d c : List (Int × Int)} (H : Held w g d) (hi : d.take i = c) (hl : c.length = i) (vs : List Value) : Held (w.setCells g (i * 2) vs) g c := by
  subst hi
  rw [List.length_take] at hl
  refine ⟨by rw [size_setCells]; exact H.lt, fun o => by rw [World.frozen?_setCells]; exact H.fr o, fun k hk => ?_, fun k hk => ?_⟩
  · rw [List.length_take] at hk
    rw [World.cell?_setCells_out g vs _ _ _ (fun _ _ => .inl (by simp; omega)), H.at0 k (by omega), pth_take (by omega)]
  · rw [List.length_take] at hk
    rw [World.cell?_setCells_out g vs _ _ _ (fun _ _ => .inl (by simp; omega)), H.at1 k (by omega), pth_take (by omega)]
theorem grown_setCells {a b : World} {g : Nat} (h : a.grownBy b (some g)) (o : Nat) (vs : List Value) : a.grownBy (b.setCells g o vs) (some g) := by
  induction vs generalizing b o with
  | nil => exact h
  | cons v vs ih => rw [World.setCells]; exact ih (grown_set h _ _) _
theorem Held.take {w : World} {g : Nat} {d : List (Int × Int)} (H : Held w g d) (i : Nat) : Held w g (d.take i) := by
  refine ⟨H.lt, H.fr, fun k hk => ?_, fun k hk => ?_⟩
  · rw [List.length_take] at hk
    rw [H.at0 k (by omega), pth_take (by omega)]
  · rw [List.length_take] at hk
    rw [H.at1 k (by omega), pth_take (by omega)]

/-- What is left in the slice. -/
def Kept (w : World) (g cap : Nat) (C : List (Int × Int)) (e : Ending) (w' : World) : Prop :=
  e = .returned (.slice (some ⟨g, 0, none⟩) C.length cap) ∧ Held w' g C ∧ w.grownBy w' (some g)
/-- As far as the place j: i are kept, at the front. -/
def CompAt (S d : List (Int × Int)) (i j : Nat) : Prop :=
  d.length = S.length ∧ (cmpct (S.take j)).length = i ∧ d.take i = cmpct (S.take j) ∧ i < j ∧ ∀ q, j ≤ q + 1 → pth d q = pth S q
theorem CompAt.skip {S d : List (Int × Int)} {i j : Nat} (h : CompAt S d i j) (h0 : 0 < j) (hj : j < S.length) (he : (pth S j).1 = (pth S (j - 1)).1) : CompAt S d i (j + 1) := by
  obtain ⟨h1, h2, h3, h4, h5⟩ := h
  have := cmpct_take h0 hj
  rw [if_pos he, List.append_nil] at this
  exact ⟨h1, by rw [this]; exact h2, by rw [this]; exact h3, by omega, fun q hq => h5 q (by omega)⟩
theorem CompAt.keep {S d : List (Int × Int)} {i j : Nat} (h : CompAt S d i j) (h0 : 0 < j) (hj : j < S.length) (he : (pth S j).1 ≠ (pth S (j - 1)).1) : CompAt S (d.set i (pth S j)) (i + 1) (j + 1) := by
  obtain ⟨h1, h2, h3, h4, h5⟩ := h
  have := cmpct_take h0 hj
  rw [if_neg he] at this
  refine ⟨by simpa using h1, by rw [this]; simp [h2], ?_, by omega, fun q hq => ?_⟩
  · rw [this, ← h3, List.take_succ_eq_append_getElem (by simp; omega)]
    simp [List.take_set_of_le]
  · rw [← h5 q (by omega)]
    simp [pth, show ¬ i = q by omega]

set_option maxRecDepth 100000 in
set_option maxHeartbeats 1000000 in
theorem compact_is (g n cap : Nat) (S : List (Int × Int)) (w : World) (hn : n ≤ 4194304) (hnc : n ≤ cap) (hcm : cap ≤ maxLen) (hl : S.length = n) (H : Held w g S) :
    Calls Tryz.prog 251 #[.slice (some ⟨g, 0, none⟩) n cap, (.func (Fn.func 252) #[] #[])] w (Kept w g cap (cmpct S)) := by
  unfold maxLen at hcm
  have HH := Lib.hid H
  have hl := Lib.hid hl
  rename_i q
  clear H q
  by_cases hn2 : n < 2
  · have hn2' : (n : Int) < 2 := by omega
    go_enter Tryz.func251, Tryz.ntmps251
    go_wp2
    go_ret
    have e : cmpct S = S := by
      match S, hl.out with
      | [], _ => rfl
      | [x], _ => rfl
      | x :: y :: S, h => simp only [List.length_cons] at h; omega
    rw [e]
    exact ⟨by rw [hl.out]; rfl, HH.out, grown_refl _ _⟩
  · have hn2' : ¬ (n : Int) < 2 := by omega
    go_enter Tryz.func251, Tryz.ntmps251
    go_wp2_with fail
    go_loopw [5] (fun iv wr => ∃ i : Nat, iv = .int .i64 i ∧ 0 < i ∧ i ≤ n ∧ cmpct (S.take i) = S.take i ∧ Below w.heap.size w wr) (fun i _ => n - (intOf i).toNat)
    case atStart =>
      refine ⟨1, rfl, by omega, by omega, ?_, Below.refl _ _⟩
      match S with
      | [] => rfl
      | x :: S => simp [cmpct, cfrom]
    case round =>
      obtain ⟨i, rfl, hi0, hin, hcmp, hbel⟩ := hrel
      have hcmp := Lib.hid hcmp
      rename_i q
      clear q
      by_cases hlt : i < n
      · have hlt' : (i : Int) < (n : Int) := by omega
        obtain ⟨p, hp, hp'⟩ : ∃ p : Nat, (i : Int) - 1 = (p : Int) ∧ p + 1 = i := ⟨i - 1, by omega, by omega⟩
        have hpn : (p : Int) < (n : Int) := by omega
        have hh := HH.out.later hbel
        have c0 := hh.at0 i (by rw [hl.out]; exact hlt)
        have c1 := hh.at1 i (by rw [hl.out]; exact hlt)
        have c2 := hh.at0 p (by rw [hl.out]; omega)
        have c3 := hh.at1 p (by rw [hl.out]; omega)
        have g0 := After.cell (by exact hh.lt) c0
        have g1 := After.cell (by exact hh.lt) c1
        have g2 := After.cell (by exact hh.lt) c2
        have g3 := After.cell (by exact hh.lt) c3
        have hstep := Lib.hid (cmpct_take hi0 (by rw [hl.out]; exact hlt : i < S.length))
        have hp' := Lib.hid hp'
        rename_i q
        clear q c0 c1 c2 c3 hh
        rw [show i - 1 = p by have := hp'.out; omega] at hstep
        generalize hu : pth S i = u at g0 g1 hstep
        generalize hv : pth S p = v at g2 g3 hstep
        have hu := Lib.hid hu
        have hv := Lib.hid hv
        rename_i q1 q2
        clear q1 q2
        obtain ⟨u, u'⟩ := u
        obtain ⟨v, v'⟩ := v
        by_cases huv : u = v
        · subst huv
          have hs : (u == u) = true := by simp
          have K0 : CompAt S S i (i + 1) := by
            have e1 := hstep.out
            rw [if_pos rfl, List.append_nil, hcmp.out] at e1
            exact ⟨rfl, by rw [e1, List.length_take, hl.out]; omega, e1.symm, by omega, fun q _ => rfl⟩
          have K0 := Lib.hid K0
          rename_i q
          clear q
          go_wp2_with fail
          refine wp_region_after (by kernel_rfl) (by kernel_rfl) ?_
          repeat (first | go_big_quiet_step ((go_at_call 252; exact after_of (eqWho_is hs u' v' _))) | quiet_step ((go_at_call 252; exact after_of (eqWho_is hs u' v' _))))
          refine wpQuiet_nil ?_
          intro pw
          have E := bel_trans hbel pw.bel
          clear g0 g1 g2 g3
          go_wp2_with fail
          go_loopw [5, 7] (fun iv kv wr => ∃ (i' k : Nat) (d : List (Int × Int)), iv = .int .i64 i' ∧ kv = .int .i64 k ∧ 0 < k ∧ i + k ≤ n ∧ CompAt S d i' (i + k) ∧ Held wr g d ∧ w.grownBy wr (some g)) (fun _ k _ => n - (intOf k).toNat)
          case atStart => exact ⟨i, 1, S, rfl, rfl, by omega, by omega, K0.out, HH.out.later E, grown_bel E _⟩
          case round =>
            obtain ⟨i', k, d, rfl, rfl, hk0, hkn, hK, hh, hg⟩ := hrel
            have hK4 := hK.2.2.2.1
            have hK1 := hK.1
            by_cases hlt2 : i + k < n
            · have hlt2' : (k : Int) < ((n - i : Nat) : Int) := by omega
              obtain ⟨r, hr, hr'⟩ : ∃ r : Nat, (k : Int) - 1 = (r : Int) ∧ r + 1 = k := ⟨k - 1, by omega, by omega⟩
              have hrn : (r : Int) < ((n - i : Nat) : Int) := by omega
              have c0 := hh.at0 (i + k) (by rw [hK1, hl.out]; exact hlt2)
              have c1 := hh.at1 (i + k) (by rw [hK1, hl.out]; exact hlt2)
              have c2 := hh.at0 (i + r) (by rw [hK1, hl.out]; omega)
              have c3 := hh.at1 (i + r) (by rw [hK1, hl.out]; omega)
              have c4 := hh.at0 i' (by rw [hK1, hl.out]; omega)
              have c5 := hh.at1 i' (by rw [hK1, hl.out]; omega)
              rw [hK.2.2.2.2 (i + k) (by omega)] at c0 c1
              rw [hK.2.2.2.2 (i + r) (by omega)] at c2 c3
              have hskip := Lib.hid (hK.skip (by omega) (by rw [hl.out]; exact hlt2))
              have hkeep := Lib.hid (hK.keep (by omega) (by rw [hl.out]; exact hlt2))
              rw [show i + k - 1 = i + r by omega] at hskip hkeep
              generalize hx : pth S (i + k) = x at c0 c1 hskip hkeep
              generalize hy : pth S (i + r) = y at c2 c3 hskip hkeep
              have HS := Lib.hid (fun (W : World) (h : Held W g d) => h.put i' x)
              have hx := Lib.hid hx
              have hy := Lib.hid hy
              have hK1 := Lib.hid hK1
              have hr' := Lib.hid hr'
              rw [show (i + k) * 2 = i * 2 + k * 2 by omega] at c0 c1
              rw [show (i + r) * 2 = i * 2 + r * 2 by omega] at c2 c3
              have g0 := After.cell (by exact hh.lt) c0
              have g1 := After.cell (by exact hh.lt) c1
              have g2 := After.cell (by exact hh.lt) c2
              have g3 := After.cell (by exact hh.lt) c3
              have g4 := After.cell (by exact hh.lt) c4
              have g5 := After.cell (by exact hh.lt) c5
              have hin' : (i' : Int) < (n : Int) := by omega
              have hk8 : (k : Int) ≤ 4194304 := by omega
              rename_i q1 q2 q3 q4
              clear q1 q2 q3 q4 c0 c1 c2 c3 c4 c5 hK
              have hh := Lib.hid hh
              rename_i q1
              clear q1
              obtain ⟨x, x'⟩ := x
              obtain ⟨y, y'⟩ := y
              by_cases hxy : x = y
              · have K1 := Lib.hid (hskip.out hxy)
                subst hxy
                have hs : (x == x) = true := by simp
                go_wp2_with fail
                refine wp_region_after (by kernel_rfl) (by kernel_rfl) ?_
                repeat (first | go_big_quiet_step ((go_at_call 252; exact after_of (eqWho_is hs x' y' _))) | quiet_step ((go_at_call 252; exact after_of (eqWho_is hs x' y' _))))
                refine wpQuiet_nil ?_
                intro pw
                have hh3 := hh.out.later pw.bel
                have hg3 := grown_trans hg (grown_bel pw.bel (some g))
                clear g0 g1 g2 g3 g4 g5
                go_wp2
                go_roundw
                case rel => exact ⟨i', k + 1, d, rfl, by go_num, by omega, by omega, K1.out, hh3, hg3⟩
                case measure => simp [intOf]; omega
              · have K1 := Lib.hid (hkeep.out hxy)
                have hs : (x == y) = false := by simp [hxy]
                have hxy := Lib.hid hxy
                rename_i q1
                clear q1
                go_wp2_with fail
                refine wp_region_after (by kernel_rfl) (by kernel_rfl) ?_
                repeat (first | go_big_quiet_step ((go_at_call 252; exact after_of (eqWho_is hs x' y' _))) | quiet_step ((go_at_call 252; exact after_of (eqWho_is hs x' y' _))))
                refine wpQuiet_nil ?_
                intro pw
                have hh3 := hh.out.later pw.bel
                have hg3 := grown_trans hg (grown_bel pw.bel (some g))
                have d0 := g0 pw
                have d1 := g1 pw
                have d4 := g4 pw
                have d5 := g5 pw
                have fr := hh3.fr
                have HP := Lib.hid (hh3.put i' (x, x'))
                clear g0 g1 g2 g3 g4 g5 hh3
                go_wp2
                go_roundw
                case rel => exact ⟨i' + 1, k + 1, d.set i' (x, x'), by go_num, by go_num, by omega, by omega, K1.out, HP.out, grown_set (grown_set hg3 _ _) _ _⟩
                case measure => simp [intOf]; omega
            · have hend : i + k = n := by omega
              have hK' : (cmpct S).length = i' ∧ d.take i' = cmpct S := by
                have h2 := hK.2.1
                have h3 := hK.2.2.1
                rw [hend, ← hl.out, List.take_length] at h2 h3
                exact ⟨h2, h3⟩
              have hend := Lib.hid hend
              obtain ⟨vs, hvs⟩ := clear_pairs wr 0 g i' (n - i') (cap - i') d (by omega) (by rw [hK1, hl.out]; omega) hh
              have hcl : ∀ ty, (Builtin.clear_ #[40] ty #[.slice (some ⟨g, i' * 2, none⟩) (n - i') (cap - i')]).run Tryz.prog wr = .ok (.tuple #[]) (wr.setCells g (i' * 2) vs) := fun ty => hvs
              have hlt2' : ¬ (k : Int) < ((n - i : Nat) : Int) := by omega
              have hK3 := Lib.hid hK'
              have hh := Lib.hid hh
              rename_i q1 q2
              clear q1 q2 hK hK' hvs hK1
              go_wp2
              go_ret
              rw [show i' = (cmpct S).length from hK3.out.1.symm]
              exact ⟨rfl, by rw [hK3.out.1]; exact hh.out.cut hK3.out.2 hK3.out.1 vs, grown_setCells hg _ vs⟩
        · have hs : (u == v) = false := by simp [huv]
          have K1 : cmpct (S.take (i + 1)) = S.take (i + 1) := by
            have e1 := hstep.out
            rw [if_neg huv, hcmp.out] at e1
            rw [e1, List.take_succ_eq_append_getElem (by rw [hl.out]; exact hlt), ← pth_lt (by rw [hl.out]; exact hlt), hu.out]
          have K1 := Lib.hid K1
          have huv := Lib.hid huv
          rename_i q1 q2
          clear q1 q2
          go_wp2_with fail
          refine wp_region_after (by kernel_rfl) (by kernel_rfl) ?_
          repeat (first | go_big_quiet_step ((go_at_call 252; exact after_of (eqWho_is hs u' v' _))) | quiet_step ((go_at_call 252; exact after_of (eqWho_is hs u' v' _))))
          refine wpQuiet_nil ?_
          intro pw
          have E := bel_trans hbel pw.bel
          clear g0 g1 g2 g3
          go_wp2
          go_roundw
          case rel => exact ⟨i + 1, by go_num, by omega, by omega, K1.out, E⟩
          case measure => simp [intOf]; omega
      · obtain rfl : i = n := by omega
        go_wp2
        go_ret
        have e := hcmp.out
        rw [← hl.out, List.take_length] at e
        rw [e]
        exact ⟨by rw [hl.out]; rfl, HH.out.later hbel, grown_bel hbel _⟩

end Go.Proofs.YtjdepjpjjgkmbaaGreat
