/- Words of the library's stable sort: a list that is made of runs in order; no conditions. -/
import Derived.Test.YtdkmbcmenomecaaStampBase
import Derived.Test.YtdkmbcmenomecaaSortMerge
import Derived.Test.YtdkmbcmenomecaaSortSym
import Derived.Lib.SliceRun
import Derived.Laws.IdiomCopy
namespace Go.Proofs.Ytdkmbcmenomecaa
open Go.RowKit

/-- Runs in order, each of k, the last one of k or fewer. -/
inductive Runs (k : Nat) : List (Int × Int) → Prop
  | last {l : List (Int × Int)} : l.length ≤ k → Srt l → Runs k l
  | cons {x l : List (Int × Int)} : x.length = k → Srt x → Runs k l → Runs k (x ++ l)
/-- Runs in order, each of k. -/
inductive Full (k : Nat) : List (Int × Int) → Prop
  | nil : Full k []
  | snoc {l x : List (Int × Int)} : Full k l → x.length = k → Srt x → Full k (l ++ x)
theorem Runs.nil (k : Nat) : Runs k [] := .last (Nat.zero_le _) (by simp [Srt])
theorem Full.runs {k : Nat} {l r : List (Int × Int)} (h : Full k l) (hr : Runs k r) : Runs k (l ++ r) := by
  induction h generalizing r with
  | nil => exact hr
  | snoc _ hx hs ih => rw [List.append_assoc]; exact ih (.cons hx hs hr)
theorem Runs.small {k : Nat} {l : List (Int × Int)} (h : Runs k l) (hl : l.length ≤ k) : Srt l := by
  cases h with
  | last _ hs => exact hs
  | cons hx hs hr =>
    rename_i x r
    rw [List.length_append] at hl
    rw [List.length_eq_zero_iff.1 (by omega : r.length = 0), List.append_nil]
    exact hs
theorem Runs.split {k : Nat} {l : List (Int × Int)} (h : Runs k l) (hl : k < l.length) : ∃ x r, l = x ++ r ∧ x.length = k ∧ Srt x ∧ Runs k r := by
  cases h with
  | last hk _ => omega
  | cons hx hs hr => exact ⟨_, _, rfl, hx, hs, hr⟩
/-- The first two runs. -/
theorem Runs.two {k : Nat} {l : List (Int × Int)} (h0 : 0 < k) (h : Runs k l) (hl : k * 2 ≤ l.length) : ∃ x y r, l = x ++ (y ++ r) ∧ x.length = k ∧ y.length = k ∧ Srt x ∧ Srt y ∧ Runs k r := by
  obtain ⟨x, r, rfl, hx, hs, hr⟩ := h.split (by omega)
  rw [List.length_append] at hl
  rcases Nat.lt_or_ge k r.length with h | h
  · obtain ⟨y, r', rfl, hy, hs', hr'⟩ := hr.split h
    exact ⟨x, y, r', rfl, hx, hy, hs, hs', hr'⟩
  · exact ⟨x, r, [], by simp, hx, by omega, hs, hr.small h, Runs.nil k⟩

end Go.Proofs.Ytdkmbcmenomecaa

/- The library's stable sort over a slice of pairs: what was there is in order then, alike ones in the order that they had. -/
namespace Go.Proofs.Ytdkmbcmenomecaa
open Go.RowKit

/-- What a stable sort of all leaves. -/
def Stable (w : World) (g : Nat) (L : List (Int × Int)) (e : Ending) (w' : World) : Prop :=
  ∃ S : List (Int × Int), S.length = L.length ∧ Srt S ∧ Same S L ∧ Does w g S e w'

end Go.Proofs.Ytdkmbcmenomecaa

/- The library's CompactFunc over a slice of pairs: of those with one first number side by side the first stays. -/
namespace Go.Proofs.Ytdkmbcmenomecaa
open Go.RowKit

theorem Try.zeroSeal : ∀ w, (zeroValue 59).run Try.prog w = .ok (.agg #[.int .i64 0, .int .i64 0]) w := by
  intro w
  obtain ⟨i, hi, hzz⟩ := Option.map_eq_some_iff.1 (show (Try.prog.info? 59).map (fun i => (i.zero, i.size, i.bytes)) = some (some (.agg #[.int .i64 0, .int .i64 0]), 2, 16) by kernel_rfl)
  simp only [Prod.mk.injEq] at hzz
  simp [zeroValue, typeInfo, hi, hzz.1]

/-- Pairs are cleared: the cells ahead of them stay. -/
theorem clear_pairs (w : World) (ty : TypeId) (g i m c : Nat) (d : List (Int × Int)) (hm : 0 < m) (hd : i + m ≤ d.length) (H : Held w g d) :
    ∃ vs : List Value, (Builtin.clear_ #[34] ty #[.slice (some ⟨g, i * 2, none⟩) m c]).run Try.prog w = .ok (.tuple #[]) (w.setCells g (i * 2) vs) := by
  have hz : (Value.agg #[.int .i64 0, .int .i64 0]).cells = #[.int .i64 0, .int .i64 0] := by rfl
  have hall : ∀ v ∈ (Builtin.zeroCells #[.int .i64 0, .int .i64 0] m).toList, v.oneCell' = true := by
    intro v hv
    simp only [Builtin.zeroCells, Array.toList_map, List.mem_map] at hv
    obtain ⟨j, _, rfl⟩ := hv
    have hj : j % 2 = 0 ∨ j % 2 = 1 := by omega
    rcases hj with hj | hj <;> simp [hj, Value.oneCell']
  have hlen : (Builtin.zeroCells #[.int .i64 0, .int .i64 0] m).toList.length = m * 2 := by simp [Builtin.zeroCells]
  have hst := run_storeCells_cells (P := Try.prog) g (i * 2) (Builtin.zeroCells #[.int .i64 0, .int .i64 0] m).toList 0 w (fun j hj => by
    rw [hlen] at hj
    have h2 : j % 2 = 0 ∨ j % 2 = 1 := by omega
    rcases h2 with h2 | h2
    · rw [show i * 2 + 0 + j = (i + j / 2) * 2 by omega, H.at0 _ (by omega)]; rfl
    · rw [show i * 2 + 0 + j = (i + j / 2) * 2 + 1 by omega, H.at1 _ (by omega)]; rfl) (fun j _ => H.fr _) hall
  simp only [Nat.add_zero] at hst
  refine ⟨(Builtin.zeroCells #[.int .i64 0, .int .i64 0] m).toList, ?_⟩
  obtain ⟨k, rfl⟩ : ∃ k, m = k + 1 := ⟨m - 1, by omega⟩
  simp [Builtin.clear_, run_underlying Try.underlying34, hz, hst]
theorem size_setCells (w : World) (g o : Nat) (vs : List Value) : (w.setCells g o vs).heap.size = w.heap.size := by
  induction vs generalizing w o with
  | nil => rfl
  | cons v vs ih => rw [World.setCells, ih, size_set]
theorem Held.cut {w : World} {g i : Nat} {d c : List (Int × Int)} (H : Held w g d) (hi : d.take i = c) (hl : c.length = i) (vs : List Value) : Held (w.setCells g (i * 2) vs) g c := by
  subst hi
  rw [List.length_take] at hl
  refine ⟨by rw [size_setCells]; exact H.lt, fun o => by rw [World.frozen?_setCells]; exact H.fr o, fun k hk => ?_, fun k hk => ?_⟩
  · rw [List.length_take] at hk
    rw [World.cell?_setCells_out g vs _ _ _ (fun _ _ => .inl (by simp; omega)), H.at0 k (by omega), pth_take (by omega)]
  · rw [List.length_take] at hk
    rw [World.cell?_setCells_out g vs _ _ _ (fun _ _ => .inl (by simp; omega)), H.at1 k (by omega), pth_take (by omega)]
theorem grown_setCells {a b : World} {g : Nat} (h : a.grownBy b (some g)) (o : Nat) (vs : List Value) : a.grownBy (b.setCells g o vs) (some g) := by
  induction vs generalizing b o with
  | nil => exact h
  | cons v vs ih => rw [World.setCells]; exact ih (grown_set h _ _) _
theorem Held.take {w : World} {g : Nat} {d : List (Int × Int)} (H : Held w g d) (i : Nat) : Held w g (d.take i) := by
  refine ⟨H.lt, H.fr, fun k hk => ?_, fun k hk => ?_⟩
  · rw [List.length_take] at hk
    rw [H.at0 k (by omega), pth_take (by omega)]
  · rw [List.length_take] at hk
    rw [H.at1 k (by omega), pth_take (by omega)]

/-- What is left in the slice. -/
def Kept (w : World) (g cap : Nat) (C : List (Int × Int)) (e : Ending) (w' : World) : Prop :=
  e = .returned (.slice (some ⟨g, 0, none⟩) C.length cap) ∧ Held w' g C ∧ w.grownBy w' (some g)
/-- As far as the place j: i are kept, at the front. -/
def CompAt (S d : List (Int × Int)) (i j : Nat) : Prop :=
  d.length = S.length ∧ (cmpct (S.take j)).length = i ∧ d.take i = cmpct (S.take j) ∧ i < j ∧ ∀ q, j ≤ q + 1 → pth d q = pth S q
theorem CompAt.skip {S d : List (Int × Int)} {i j : Nat} (h : CompAt S d i j) (h0 : 0 < j) (hj : j < S.length) (he : (pth S j).1 = (pth S (j - 1)).1) : CompAt S d i (j + 1) := by
  obtain ⟨h1, h2, h3, h4, h5⟩ := h
  have := cmpct_take h0 hj
  rw [if_pos he, List.append_nil] at this
  exact ⟨h1, by rw [this]; exact h2, by rw [this]; exact h3, by omega, fun q hq => h5 q (by omega)⟩
theorem CompAt.keep {S d : List (Int × Int)} {i j : Nat} (h : CompAt S d i j) (h0 : 0 < j) (hj : j < S.length) (he : (pth S j).1 ≠ (pth S (j - 1)).1) : CompAt S (d.set i (pth S j)) (i + 1) (j + 1) := by
  obtain ⟨h1, h2, h3, h4, h5⟩ := h
  have := cmpct_take h0 hj
  rw [if_neg he] at this
  refine ⟨by simpa using h1, by rw [this]; simp [h2], ?_, by omega, fun q hq => ?_⟩
  · rw [this, ← h3, List.take_succ_eq_append_getElem (by simp; omega)]
    simp [List.take_set_of_le]
  · rw [← h5 q (by omega)]
    simp [pth, show ¬ i = q by omega]

end Go.Proofs.Ytdkmbcmenomecaa
