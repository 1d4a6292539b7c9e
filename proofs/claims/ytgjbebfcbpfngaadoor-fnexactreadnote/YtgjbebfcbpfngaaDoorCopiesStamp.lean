/- The laws' own copies of stamps and of lists of them, their size and the test that two are alike: contracts of each of them. -/
import Derived.Test.YtgjbebfcbpfngaaDoorSpecStamp
import Derived.Laws.MakeOwn
namespace Go.Proofs.YtgjbebfcbpfngaaDoor
open Go.RowKit

theorem eqStamp_same (c k : Int) (w : World) :
    Calls Tryd.prog 58 #[.agg #[.int .i64 c, .int .i64 k], .agg #[.int .i64 c, .int .i64 k]] w fun e w' => e = .returned (.bool true) ∧ Below w.heap.size w w' := by
  go_enter Tryd.func58, Tryd.ntmps58
  go_wp2
  go_ret
  exact ⟨rfl, bel_trans (bel_alloc _ _) (bel_alloc _ _)⟩

theorem Tryd.infoStamp : (Tryd.prog.info? 28).map (fun i => (i.zero, i.size, i.bytes)) = some (some (.agg #[.int .i64 0, .int .i64 0]), 2, 16) := by kernel_rfl

/-- n pairs of noughts are made. -/
theorem run_make_pairs {P : Program} (t e : TypeId) (ht : P.underlying t = some (.slice e)) (hinfo : (P.info? e).map (fun i => (i.zero, i.size, i.bytes)) = some (some (.agg #[.int .i64 0, .int .i64 0]), 2, 16))
    (n : Nat) (hn : n ≤ 1048576) (w : World) :
    (Instr.makeSlice t (.int .i64 (n : Int)) (.int .i64 (n : Int))).run P w = .ok (.slice (some ⟨w.heap.size, 0, none⟩) n n) (w.alloc (.cells (madeCells #[.int .i64 0, .int .i64 0] (n * 2)) e)) := by
  obtain ⟨i, hi, hzz⟩ := Option.map_eq_some_iff.1 hinfo
  simp only [Prod.mk.injEq] at hzz
  obtain ⟨hz, hs, hb⟩ := hzz
  have hr := run_make (P := P) w t e i _ ht hi hz .i64 .i64 n n (by omega) (Int.le_refl _) (by rw [hb]; omega) (by omega)
  simp only [Int.toNat_natCast, hs] at hr
  exact hr
theorem made_pairs (w : World) (n : Nat) (t : TypeId) : (w.alloc (.cells (madeCells #[.int .i64 0, .int .i64 0] (n * 2)) t)).rowIs w.heap.size t (n * 2) (fun _ => .int .i64 0) :=
  ⟨madeCells #[.int .i64 0, .int .i64 0] (n * 2), heap_alloc_new w _, size_madeCells _ _, fun i hi => by
    have h : i % 2 = 0 ∨ i % 2 = 1 := by omega
    rcases h with h | h <;> simp [madeCells, hi, h]⟩

/-- What a copy of n pairs leaves: a new row that holds them. -/
def MadePairs (w : World) (n : Nat) (ps : List (Int × Int)) (e : Ending) (w' : World) : Prop :=
  ∃ g, w.heap.size ≤ g ∧ e = .returned (.slice (some ⟨g, 0, none⟩) n n) ∧ Pairs w' w'.heap.size (some ⟨g, 0, none⟩) n ps ∧ Below w.heap.size w w'

/-- The first k pairs are copied. -/
def uptoP (ps : List (Int × Int)) (k j : Nat) : Value := if j < k * 2 then (if j % 2 = 0 then .int .i64 (pth ps (j / 2)).1 else .int .i64 (pth ps (j / 2)).2) else .int .i64 0
theorem uptoP_zero (ps : List (Int × Int)) (j : Nat) : uptoP ps 0 j = .int .i64 0 := by simp [uptoP]
theorem uptoP_succ {w : World} {b n k : Nat} {t : TypeId} {ps : List (Int × Int)} {x y : Int} (h : w.rowIs b t n (uptoP ps k)) (hx : pth ps k = (x, y)) :
    ((w.setCell ⟨b, k * 2, none⟩ (.int .i64 x)).setCell ⟨b, k * 2 + 1, none⟩ (.int .i64 y)).rowIs b t n (uptoP ps (k + 1)) :=
  ((h.set (k * 2) _).set (k * 2 + 1) _).congr fun i _ => by
    unfold uptoP
    by_cases e : i = k * 2 + 1
    · subst e
      have h1 : (k * 2 + 1) % 2 = 1 := by omega
      have h2 : (k * 2 + 1) / 2 = k := by omega
      have h3 : k * 2 + 1 < (k + 1) * 2 := by omega
      simp [h1, h2, h3, hx]
    · by_cases f : i = k * 2
      · subst f
        have h1 : (k * 2) % 2 = 0 := by omega
        have h2 : (k * 2) / 2 = k := by omega
        have h3 : k * 2 < (k + 1) * 2 := by omega
        simp [h2, h3, hx]
      · by_cases g : i < k * 2
        · simp [e, f, g, show i < (k + 1) * 2 by omega]
        · simp [e, f, g, show ¬ i < (k + 1) * 2 by omega]
theorem uptoP_all {w : World} {b n : Nat} {t : TypeId} {ps : List (Int × Int)} (h : w.rowIs b t (n * 2) (uptoP ps n)) (hl : ps.length = n) : Pairs w w.heap.size (some ⟨b, 0, none⟩) n ps := by
  refine ⟨hl, fun _ => ⟨b, 0, rfl, h.lt, fun i hi => ⟨?_, ?_⟩⟩⟩
  · have h1 : (i * 2) % 2 = 0 := by omega
    have h2 : (i * 2) / 2 = i := by omega
    rw [Nat.zero_add, h.cell (i := i * 2) (by omega)]
    simp [uptoP, h2, show i * 2 < n * 2 by omega]
  · have h1 : (i * 2 + 1) % 2 = 1 := by omega
    have h2 : (i * 2 + 1) / 2 = i := by omega
    rw [Nat.zero_add, h.cell (i := i * 2 + 1) (by omega)]
    simp [uptoP, h1, h2, show i * 2 + 1 < n * 2 by omega]

end Go.Proofs.YtgjbebfcbpfngaaDoor
