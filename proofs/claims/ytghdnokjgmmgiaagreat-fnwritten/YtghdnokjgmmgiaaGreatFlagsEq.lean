/- The flags of who sealed are compared: a contract of the comparison; no conditions. -/
import Derived.Test.YtghdnokjgmmgiaaGreatCert
import Derived.ChangeKeysEq
namespace Go.Proofs.YtghdnokjgmmgiaaGreat
open Go.RowKit

theorem Tryz.infoBool : ∃ i, Tryz.prog.info? 4 = some i ∧ i.size = 1 := by
  obtain ⟨i, hi, hzz⟩ := Option.map_eq_some_iff.1 (show (Tryz.prog.info? 4).map (fun i => i.size) = some 1 by kernel_rfl)
  exact ⟨i, hi, hzz⟩

theorem eqItems_step (xs ys : Array Value) (i : Nat) (is : List Nat) (a b : Bool) (w : World) (hc : Tryz.prog.cellsOf 4 = 1) (ha : (part 4 xs i).run Tryz.prog w = .ok (.bool a) w) (hb : (part 4 ys i).run Tryz.prog w = .ok (.bool b) w) :
    (Op.eqItems 9999 4 (Tryz.prog.cellsOf 4) xs ys (i :: is)).run Tryz.prog w = if a = b then (Op.eqItems 9999 4 (Tryz.prog.cellsOf 4) xs ys is).run Tryz.prog w else .ok false w := by
  rw [hc]
  simp only [Op.eqItems, Nat.mul_one, Sem.run_bind, ha, hb, Result.andThen_ok, run_equalIn_bool w 9998 4 a b Tryz.underlying4]
  by_cases h : a = b
  · subst h; simp
  · have : (a == b) = false := by simpa using h
    simp [this, h]

theorem part_flag (cs : Array Value) (i : Nat) (v : Value) (w : World) (h : cs[i]? = some v) : (part 4 cs i).run Tryz.prog w = .ok v w := by
  obtain ⟨i0, hi, hs⟩ := Tryz.infoBool
  simp [part, typeInfo, sizeOf, hi, hs, h, isAgg, run_underlying Tryz.underlying4]

theorem Tryz.cellsBool : Tryz.prog.cellsOf 4 = 1 := by kernel_rfl

/-- All of these places, from k on. -/
theorem eqItems_all (J J' : List (Int × Int)) (w : World) : ∀ (is : List Nat), (∀ i ∈ is, i < 10) →
    (Op.eqItems 9999 4 (Tryz.prog.cellsOf 4) #[.bool (fl (J) 0), .bool (fl (J) 1), .bool (fl (J) 2), .bool (fl (J) 3), .bool (fl (J) 4), .bool (fl (J) 5), .bool (fl (J) 6), .bool (fl (J) 7), .bool (fl (J) 8), .bool (fl (J) 9)] #[.bool (fl (J') 0), .bool (fl (J') 1), .bool (fl (J') 2), .bool (fl (J') 3), .bool (fl (J') 4), .bool (fl (J') 5), .bool (fl (J') 6), .bool (fl (J') 7), .bool (fl (J') 8), .bool (fl (J') 9)] is).run Tryz.prog w = .ok (is.all fun i => fl J i == fl J' i) w
  | [], _ => by simp [Op.eqItems]
  | i :: is, h => by
    have hi : i < 10 := h i (by simp)
    have hat : ∀ K : List (Int × Int), (#[.bool (fl (K) 0), .bool (fl (K) 1), .bool (fl (K) 2), .bool (fl (K) 3), .bool (fl (K) 4), .bool (fl (K) 5), .bool (fl (K) 6), .bool (fl (K) 7), .bool (fl (K) 8), .bool (fl (K) 9)] : Array Value)[i]? = some (.bool (fl K i)) := fun K => by
      have hc : i = 0 ∨ i = 1 ∨ i = 2 ∨ i = 3 ∨ i = 4 ∨ i = 5 ∨ i = 6 ∨ i = 7 ∨ i = 8 ∨ i = 9 := by omega
      rcases hc with rfl | rfl | rfl | rfl | rfl | rfl | rfl | rfl | rfl | rfl <;> rfl
    rw [eqItems_step _ _ i is (fl J i) (fl J' i) w Tryz.cellsBool (part_flag _ _ _ _ (hat J)) (part_flag _ _ _ _ (hat J')), eqItems_all J J' w is (fun j hj => h j (by simp [hj]))]
    by_cases e : fl J i = fl J' i
    · simp [e]
    · have : (fl J i == fl J' i) = false := by simpa using e
      simp [e]

/-- The same flags. -/
theorem eqFlags_same (J : List (Int × Int)) (w : World) : (Op.equalIn 10000 139 (.agg #[.bool (fl (J) 0), .bool (fl (J) 1), .bool (fl (J) 2), .bool (fl (J) 3), .bool (fl (J) 4), .bool (fl (J) 5), .bool (fl (J) 6), .bool (fl (J) 7), .bool (fl (J) 8), .bool (fl (J) 9)]) (.agg #[.bool (fl (J) 0), .bool (fl (J) 1), .bool (fl (J) 2), .bool (fl (J) 3), .bool (fl (J) 4), .bool (fl (J) 5), .bool (fl (J) 6), .bool (fl (J) 7), .bool (fl (J) 8), .bool (fl (J) 9)])).run Tryz.prog w = .ok true w := by
  obtain ⟨i0, hi, _⟩ := Tryz.infoBool
  rw [run_equalIn_array w 9999 _ _ Tryz.underlying139 hi, eqItems_all J J w _ (fun i hi => by simpa using hi)]
  simp
/-- One more flag. -/
theorem eqFlags_more (J J' : List (Int × Int)) (k : Nat) (hk : k < 10) (h : fl J k = false) (h' : fl J' k = true) (w : World) : (Op.equalIn 10000 139 (.agg #[.bool (fl (J') 0), .bool (fl (J') 1), .bool (fl (J') 2), .bool (fl (J') 3), .bool (fl (J') 4), .bool (fl (J') 5), .bool (fl (J') 6), .bool (fl (J') 7), .bool (fl (J') 8), .bool (fl (J') 9)]) (.agg #[.bool (fl (J) 0), .bool (fl (J) 1), .bool (fl (J) 2), .bool (fl (J) 3), .bool (fl (J) 4), .bool (fl (J) 5), .bool (fl (J) 6), .bool (fl (J) 7), .bool (fl (J) 8), .bool (fl (J) 9)])).run Tryz.prog w = .ok false w := by
  obtain ⟨i0, hi, _⟩ := Tryz.infoBool
  rw [run_equalIn_array w 9999 _ _ Tryz.underlying139 hi, eqItems_all J' J w _ (fun i hi => by simpa using hi)]
  have : (List.range 10).all (fun i => fl J' i == fl J i) = false := by
    rw [List.all_eq_false]
    exact ⟨k, by simpa using hk, by rw [h, h']; simp⟩
  rw [this]

end Go.Proofs.YtghdnokjgmmgiaaGreat
