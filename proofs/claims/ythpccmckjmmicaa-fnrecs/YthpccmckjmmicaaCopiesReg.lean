/- The laws' own copies of opens and shelves, their size, the test that two are alike, their marks: contracts of each of them. -/
import Derived.Test.YthpccmckjmmicaaRegBase
namespace Go.Proofs.Ythpccmckjmmicaa
open Go.RowKit

theorem Try.infoOpen : (Try.prog.info? 69).map (fun i => (i.zero, i.size, i.bytes)) = some (some (.agg #[.int .i64 0, .int .i64 0, .int .i64 0, .int .i64 0]), 4, 32) := by kernel_rfl

theorem run_make_quads {P : Program} (t e : TypeId) (ht : P.underlying t = some (.slice e)) (hinfo : (P.info? e).map (fun i => (i.zero, i.size, i.bytes)) = some (some (.agg #[.int .i64 0, .int .i64 0, .int .i64 0, .int .i64 0]), 4, 32))
    (n : Nat) (hn : n ≤ 1048576) (w : World) :
    (Instr.makeSlice t (.int .i64 (n : Int)) (.int .i64 (n : Int))).run P w = .ok (.slice (some ⟨w.heap.size, 0, none⟩) n n) (w.alloc (.cells (madeCells #[.int .i64 0, .int .i64 0, .int .i64 0, .int .i64 0] (n * 4)) e)) := by
  obtain ⟨i, hi, hzz⟩ := Option.map_eq_some_iff.1 hinfo
  simp only [Prod.mk.injEq] at hzz
  obtain ⟨hz, hs, hb⟩ := hzz
  have hr := run_make (P := P) w t e i _ ht hi hz .i64 .i64 n n (by omega) (Int.le_refl _) (by rw [hb]; omega) (by omega)
  simp only [Int.toNat_natCast, hs] at hr
  exact hr
theorem made_quads (w : World) (n : Nat) (t : TypeId) : (w.alloc (.cells (madeCells #[.int .i64 0, .int .i64 0, .int .i64 0, .int .i64 0] (n * 4)) t)).rowIs w.heap.size t (n * 4) (fun _ => .int .i64 0) :=
  ⟨madeCells #[.int .i64 0, .int .i64 0, .int .i64 0, .int .i64 0] (n * 4), heap_alloc_new w _, size_madeCells _ _, fun i hi => by
    have h : i % 4 = 0 ∨ i % 4 = 1 ∨ i % 4 = 2 ∨ i % 4 = 3 := by omega
    rcases h with h | h | h | h <;> simp [madeCells, hi, h]⟩

/-- What a copy of n opens leaves: a new block that holds them. -/
def MadeHeldQ (w : World) (n : Nat) (os : List Opn) (e : Ending) (w' : World) : Prop :=
  ∃ g, w.heap.size ≤ g ∧ e = .returned (.slice (some ⟨g, 0, none⟩) n n) ∧ os.length = n ∧ HeldQ w' g os ∧ Below w.heap.size w w'

/-- One of the four numbers of an open. -/
def pickO (o : Opn) (j : Nat) : Int := if j = 0 then o.1 else if j = 1 then o.2.1 else if j = 2 then o.2.2.1 else o.2.2.2
/-- The first k opens are copied. -/
def uptoQ (os : List Opn) (k j : Nat) : Value := if j < k * 4 then .int .i64 (pickO (oth os (j / 4)) (j % 4)) else .int .i64 0
theorem uptoQ_zero (os : List Opn) (j : Nat) : uptoQ os 0 j = .int .i64 0 := by simp [uptoQ]
theorem uptoQ_succ {w : World} {b n k : Nat} {t : TypeId} {os : List Opn} {x y z u : Int} (h : w.rowIs b t n (uptoQ os k)) (hx : oth os k = (x, y, z, u)) :
    ((((w.setCell ⟨b, k * 4, none⟩ (.int .i64 x)).setCell ⟨b, k * 4 + 1, none⟩ (.int .i64 y)).setCell ⟨b, k * 4 + 2, none⟩ (.int .i64 z)).setCell ⟨b, k * 4 + 3, none⟩ (.int .i64 u)).rowIs b t n (uptoQ os (k + 1)) :=
  ((((h.set (k * 4) _).set (k * 4 + 1) _).set (k * 4 + 2) _).set (k * 4 + 3) _).congr fun i _ => by
    unfold uptoQ
    by_cases e3 : i = k * 4 + 3
    · subst e3
      rw [if_pos rfl, if_pos (by omega), show (k * 4 + 3) / 4 = k by omega, show (k * 4 + 3) % 4 = 3 by omega, hx]; rfl
    rw [if_neg e3]
    by_cases e2 : i = k * 4 + 2
    · subst e2
      rw [if_pos rfl, if_pos (by omega), show (k * 4 + 2) / 4 = k by omega, show (k * 4 + 2) % 4 = 2 by omega, hx]; rfl
    rw [if_neg e2]
    by_cases e1 : i = k * 4 + 1
    · subst e1
      rw [if_pos rfl, if_pos (by omega), show (k * 4 + 1) / 4 = k by omega, show (k * 4 + 1) % 4 = 1 by omega, hx]; rfl
    rw [if_neg e1]
    by_cases e0 : i = k * 4
    · subst e0
      rw [if_pos rfl, if_pos (by omega), show (k * 4) / 4 = k by omega, show (k * 4) % 4 = 0 by omega, hx]; rfl
    rw [if_neg e0]
    by_cases g : i < k * 4
    · rw [if_pos g, if_pos (by omega)]
    · rw [if_neg g, if_neg (by omega)]
theorem upto_heldQ {w : World} {b n : Nat} {t : TypeId} {os : List Opn} (h : w.rowIs b t (n * 4) (uptoQ os n)) (hl : os.length = n) : HeldQ w b os := by
  refine ⟨h.lt, fun o => h.frozen o, fun i hi => ?_⟩
  rw [hl] at hi
  refine ⟨?_, ?_, ?_, ?_⟩
  · rw [h.cell (i := i * 4) (by omega)]; unfold uptoQ; rw [if_pos (by omega), show i * 4 / 4 = i by omega, show i * 4 % 4 = 0 by omega]; rfl
  · rw [h.cell (i := i * 4 + 1) (by omega)]; unfold uptoQ; rw [if_pos (by omega), show (i * 4 + 1) / 4 = i by omega, show (i * 4 + 1) % 4 = 1 by omega]; rfl
  · rw [h.cell (i := i * 4 + 2) (by omega)]; unfold uptoQ; rw [if_pos (by omega), show (i * 4 + 2) / 4 = i by omega, show (i * 4 + 2) % 4 = 2 by omega]; rfl
  · rw [h.cell (i := i * 4 + 3) (by omega)]; unfold uptoQ; rw [if_pos (by omega), show (i * 4 + 3) / 4 = i by omega, show (i * 4 + 3) % 4 = 3 by omega]; rfl

/-- What a copy of a shelf leaves: two new blocks that hold its lists. -/
def MadeReg (w : World) (rt rq rv : Int) (p q : Nat) (ps : List (Int × Int)) (os : List Opn) (e : Ending) (w' : World) : Prop :=
  ∃ g h, w.heap.size ≤ g ∧ g < h ∧ e = .returned (.agg #[.int .i64 rt, .int .i64 rq, .int .i64 rv, .slice (some ⟨g, 0, none⟩) p p, .slice (some ⟨h, 0, none⟩) q q]) ∧ Held w' g ps ∧ HeldQ w' h os ∧ Below w.heap.size w w'

theorem HeldK.far {w : World} {g : Nat} {d : List (Int × Int)} (h : Held w g d) {b : Nat} (hb : b ≠ g) (o : Nat) (v : Value) : Held (w.setCell ⟨b, o, none⟩ v) g d :=
  ⟨by rw [size_set]; exact h.lt, fun j => by simp [h.fr j], fun i hi => by rw [World.cell?_setCell_other _ _ _ _ (fun e => hb (by injection e))]; exact h.at0 i hi, fun i hi => by rw [World.cell?_setCell_other _ _ _ _ (fun e => hb (by injection e))]; exact h.at1 i hi⟩
theorem HeldQ.far {w : World} {g : Nat} {d : List Opn} (h : HeldQ w g d) {b : Nat} (hb : b ≠ g) (o : Nat) (v : Value) : HeldQ (w.setCell ⟨b, o, none⟩ v) g d :=
  h.keep (by rw [size_set]; exact h.lt) (fun j => by simp) (fun j => World.cell?_setCell_other _ _ _ _ (fun e => hb (by injection e)))

end Go.Proofs.Ythpccmckjmmicaa
