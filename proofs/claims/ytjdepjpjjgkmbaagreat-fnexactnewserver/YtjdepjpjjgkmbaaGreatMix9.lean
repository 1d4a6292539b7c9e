/- Numbers of any size are mixed, as the program and as the model do it; conditions: how many they are. -/
import Derived.Test.YtjdepjpjjgkmbaaGreatSpecSeal
import Derived.Test.YtjdepjpjjgkmbaaGreatSink
namespace Go.Proofs.YtjdepjpjjgkmbaaGreat
open Go Go.RowKit

/-- What one more number makes of what is mixed: round the ends of int64. -/
def mixw (x z : Int) : Int := Int.tmod (wrap64 (wrap64 (48271 * x + z) + 1)) 2147483647
def mixW (x : Int) (zs : List Int) : Int := zs.foldl mixw x
/-- What a mixer can have. -/
def Bd (x : Int) : Prop := -2147483646 ≤ x ∧ x ≤ 2147483646
theorem mixw_bd (x z : Int) : Bd (mixw x z) := by
  unfold mixw Bd
  generalize wrap64 (wrap64 (48271 * x + z) + 1) = y
  have h1 := Int.tmod_lt_of_pos y (b := 2147483647) (by omega)
  have h2 := Int.tmod_lt_of_pos (-y) (b := 2147483647) (by omega)
  rw [Int.neg_tmod] at h2
  omega
theorem mixW_bd : ∀ (zs : List Int) (x : Int), Bd x → Bd (mixW x zs)
  | [], _, h => h
  | z :: zs, x, _ => mixW_bd zs (mixw x z) (mixw_bd x z)
theorem mixW_snoc {zs : List Int} {k : Nat} (h : k < zs.length) (x : Int) : mixW x (zs.take (k + 1)) = mixw (mixW x (zs.take k)) (nth zs k) := by
  unfold mixW
  rw [List.take_succ_eq_append_getElem h, List.foldl_append, List.foldl_cons, List.foldl_nil]
  simp [nth, h]
theorem mixW_app (x : Int) (a b : List Int) : mixW x (a ++ b) = mixW (mixW x a) b := List.foldl_append ..

set_option maxHeartbeats 400000 in
/-- Numbers are mixed into what a mixer has. -/
theorem mixInW_any (g b n : Nat) (zs : List Int) (x : Int) (w : World) (hx : Bd x) (hl : zs.length = n) (hn : n ≤ 16)
    (hB : Box w g 2 #[.int .i64 x]) (hr : Box w b 2 (zs.map (Value.int .i64)).toArray) (hne : b ≠ g) :
    Calls Tryz.prog 223 #[.slice (some ⟨b, 0, none⟩) n n, .pointer (some ⟨g, 0, none⟩)] w fun e w' => e = .returned (.int .i64 (mixW x zs)) ∧ Box w' g 2 #[.int .i64 (mixW x zs)] ∧ w.grownBy w' (some g) := by
  have HL := Lib.hid hl
  have HX := Lib.hid hx
  have HR := Lib.hid hr
  clear hl hr hx
  go_enter Tryz.func223, Tryz.ntmps223
  go_wp2_with fail
  go_loopw [8] (fun i wr => ∃ (k : Nat) (y : Int), k ≤ n ∧ i = .int .i64 k ∧ Hid (mixW x (zs.take k) = y) ∧ Box wr g 2 #[.int .i64 y] ∧ w.grownBy wr (some g)) (fun i _ => n - (intOf i).toNat)
  case atStart => exact ⟨0, x, by omega, rfl, rfl, hB, grown_refl _ _⟩
  case round =>
    obtain ⟨k, y, hk, rfl, hy, Y, G⟩ := hrel
    have y0 := Y.cell 0
    have fy := Y.frozen
    by_cases hlt : k < n
    · have hr := (HR.out.kept G (by intro e; injection e with e; exact hne e.symm)).ints (i := k) (by rw [HL.out]; exact hlt)
      have HS : Hid (mixW x (zs.take (k + 1)) = mixw y (nth zs k)) := by show _ = _; rw [mixW_snoc (by rw [HL.out]; exact hlt), hy.out]
      obtain ⟨hy0, hy1⟩ : Bd y := by rw [← hy.out]; exact mixW_bd _ _ HX.out
      generalize nth zs k = z at hr HS
      have i1 : IntKind.i64.wrap (48271 * y) = 48271 * y := IntWalk.i64_in _ (by omega)
      have i4 : IntKind.i64.wrap (mixw y z) = mixw y z := IntWalk.i64_in _ (by have := mixw_bd y z; unfold Bd at this; omega)
      go_wp2
      go_roundw
      case rel => exact ⟨k + 1, _, by omega, by go_num, HS.out, Y.set 0 (.int .i64 (mixw y z)), grown_set G 0 _⟩
      case measure => simp [intOf]; omega
    · have HE : Hid (mixW x zs = y) := by show _ = _; rw [← hy.out, List.take_of_length_le (by rw [HL.out]; omega)]
      go_wp2
      go_ret
      exact ⟨by rw [HE.out]; rfl, by rw [HE.out]; exact Y, G⟩

/-- The numbers of pairs, one behind the other. -/
def flatI (ps : List (Int × Int)) : List Int := ps.flatMap fun p => [p.1, p.2]
theorem flatI_len (ps : List (Int × Int)) : (flatI ps).length = ps.length * 2 := by
  induction ps with
  | nil => rfl
  | cons p ps ih => show (flatI ps).length + 1 + 1 = _; rw [ih, List.length_cons]; omega
theorem flatI_snoc {ps : List (Int × Int)} {k : Nat} (h : k < ps.length) : flatI (ps.take (k + 1)) = flatI (ps.take k) ++ [(pth ps k).1, (pth ps k).2] := by
  rw [List.take_succ_eq_append_getElem h, ← pth_lt h]
  simp [flatI]
/-- What SumOf answers. -/
def sumN (r1 r2 r3 r4 r5 r6 r7 : Int) (ps : List (Int × Int)) : Int := mixW 7 ([r1, r2, r3, r4, r5, r6, r7] ++ flatI ps)
theorem bd7 : Bd 7 := by unfold Bd; omega
theorem sumN_bd (r1 r2 r3 r4 r5 r6 r7 : Int) (ps : List (Int × Int)) : Bd (sumN r1 r2 r3 r4 r5 r6 r7 ps) := mixW_bd _ _ bd7

set_option maxHeartbeats 400000 in
theorem l3MixW_any (A : Option Addr) (n cap : Nat) (zs : List Int) (w : World) (hn : n ≤ 16777216) (hr : Row w w.heap.size A n zs) :
    Calls Tryz.prog 188 #[.slice A n cap] w fun e w' => e = .returned (.int .i64 (mixW 7 zs)) ∧ Below w.heap.size w w' := by
  have HL := Lib.hid hr.1
  have HR := Lib.hid hr
  clear hr
  go_enter Tryz.func188, Tryz.ntmps188
  go_wp2_with fail
  go_loopw [3, 4] (fun a i wr => ∃ (k : Nat) (y : Int), k ≤ n ∧ i = .int .i64 k ∧ a = .int .i64 y ∧ Hid (mixW 7 (zs.take k) = y) ∧ Below w.heap.size w wr) (fun _ i _ => n - (intOf i).toNat)
  case atStart => exact ⟨0, 7, by omega, rfl, rfl, rfl, Below.refl _ _⟩
  case round =>
    obtain ⟨k, y, hk, rfl, rfl, hy, E⟩ := hrel
    by_cases hlt : k < n
    · obtain ⟨b, o, hA, hb, hc⟩ := (HR.out.below E (Nat.le_refl _)).2 (by omega)
      subst hA
      have hr := After.cell (a := ⟨b, o + k, none⟩) (Nat.lt_of_lt_of_le hb E.size) (hc k hlt)
      have HS : Hid (mixW 7 (zs.take (k + 1)) = mixw y (nth zs k)) := by show _ = _; rw [mixW_snoc (by rw [HL.out]; exact hlt), hy.out]
      obtain ⟨hy0, hy1⟩ : Bd y := by rw [← hy.out]; exact mixW_bd _ _ bd7
      clear hc
      generalize nth zs k = z at hr HS
      have hlt' : (k : Int) < (n : Int) := by omega
      have i1 : IntKind.i64.wrap (48271 * y) = 48271 * y := IntWalk.i64_in _ (by omega)
      have ht : Int.tmod (wrap64 (wrap64 (48271 * y + z) + 1)) 2147483647 = mixw y z := rfl
      have i4 : IntKind.i64.wrap (mixw y z) = mixw y z := IntWalk.i64_in _ (by have := mixw_bd y z; unfold Bd at this; omega)
      go_wp2_with fail
      refine wp_region_after (by kernel_rfl) (by kernel_rfl) ?_
      repeat (first | go_big_quiet_step ((go_at_call 206; exact after_same (l3M_any _))) | quiet_step ((go_at_call 206; exact after_same (l3M_any _))))
      refine wpQuiet_nil ?_
      intro p
      clear i1 i4 ht
      go_wp2
      go_roundw
      case rel => exact ⟨k + 1, mixw y z, by omega, by go_num, rfl, HS.out, bel_trans E p.bel⟩
      case measure => simp [intOf]; omega
    · have hz := HL.out
      have HE : Hid (mixW 7 zs = y) := by show _ = _; rw [← hy.out, List.take_of_length_le (by omega)]
      clear hz
      go_wp2
      go_ret
      exact ⟨by rw [HE.out]; rfl, E⟩

theorem Box.nine {w : World} {g : Nat} {t : TypeId} {v0 v1 v2 v3 v4 v5 v6 v7 v8 : Value} (h : Box w g t #[v0, v1, v2, v3, v4, v5, v6, v7, v8]) :
    w.cell? ⟨g, 0, none⟩ = some v0 ∧ w.cell? ⟨g, 1, none⟩ = some v1 ∧ w.cell? ⟨g, 2, none⟩ = some v2 ∧ w.cell? ⟨g, 3, none⟩ = some v3 ∧ w.cell? ⟨g, 4, none⟩ = some v4 ∧ w.cell? ⟨g, 5, none⟩ = some v5 ∧ w.cell? ⟨g, 6, none⟩ = some v6 ∧ w.cell? ⟨g, 7, none⟩ = some v7 ∧ w.cell? ⟨g, 8, none⟩ = some v8 :=
  ⟨h.cell 0, h.cell 1, h.cell 2, h.cell 3, h.cell 4, h.cell 5, h.cell 6, h.cell 7, h.cell 8⟩
end Go.Proofs.YtjdepjpjjgkmbaaGreat
