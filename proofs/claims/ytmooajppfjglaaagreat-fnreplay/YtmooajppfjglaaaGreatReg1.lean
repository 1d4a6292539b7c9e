/- The opens of a shelf: where the one of a client stands, and which it is (the program's and the model's): contracts of each of them. -/
import Derived.Test.YtmooajppfjglaaaGreatRegBase
namespace Go.Proofs.YtmooajppfjglaaaGreat
open Go.RowKit

/-- What placeOf answers. -/
def Place (c : Int) (os : List Opn) (w : World) (e : Ending) (w' : World) : Prop :=
  Below w.heap.size w w' ∧ ((∃ i : Nat, firstAt c os i ∧ e = .returned (.tuple #[.int .i64 (i : Int), .int .i64 ((i : Int) + 1)])) ∨ (noneAt c os ∧ e = .returned (.tuple #[.int .i64 (behN c os : Int), .int .i64 (behN c os : Int)])))

set_option maxHeartbeats 1000000 in
theorem placeOf_is (A : Option Addr) (n cap : Nat) (os : List Opn) (c : Int) (w : World) (hm : n ≤ 4194304) (hr : Quads w w.heap.size A n os) :
    Calls Tryz.prog 136 #[.slice A n cap, .int .i64 c] w (Place c os w) := by
  have HR := Lib.hid hr
  have HL := Lib.hid hr.1
  clear hr
  go_enter Tryz.func136, Tryz.ntmps136
  go_wp2_with fail
  go_loopw [6, 11] (fun bv iv wr => ∃ k b : Nat, k ≤ n ∧ b ≤ k ∧ iv = .int .i64 k ∧ bv = .int .i64 b ∧ behN c (os.take k) = b ∧ (∀ j, j < k → (oth os j).1 ≠ c) ∧ Below w.heap.size w wr) (fun _ i _ => n - (intOf i).toNat)
  case atStart => exact ⟨0, 0, Nat.zero_le _, Nat.le_refl _, rfl, rfl, rfl, fun j hj => absurd hj (by omega), Below.refl _ _⟩
  case round =>
    obtain ⟨k, bb, hk, hbk, rfl, rfl, hbe, hne, hb⟩ := hrel
    by_cases hlt : k < n
    · obtain ⟨b, o, hA, hbB, hcell⟩ := HR.out.2 (by omega)
      subst hA
      obtain ⟨g0, g1, g2, g3⟩ := hcell k hlt
      have g0 := (hb.cell (p := ⟨b, o + k * 4, none⟩) hbB).trans g0
      have g1 := (hb.cell (p := ⟨b, o + k * 4 + 1, none⟩) hbB).trans g1
      have g2 := (hb.cell (p := ⟨b, o + k * 4 + 2, none⟩) hbB).trans g2
      have g3 := (hb.cell (p := ⟨b, o + k * 4 + 3, none⟩) hbB).trans g3
      have hsn := behN_snoc (c := c) (os := os) (k := k) (by rw [HL.out]; exact hlt)
      generalize hx : oth os k = x at g0 g1 g2 g3 hsn
      obtain ⟨x, y, z, u⟩ := x
      have HX := Lib.hid hx
      have hlt' : (k : Int) < (n : Int) := by omega
      rw [hbe] at hsn
      replace hbe := Lib.hid hbe
      replace hne := Lib.hid hne
      have E2 := bel_trans hb (bel_alloc wr (.cells #[.int .i64 x, .int .i64 y, .int .i64 z, .int .i64 u] 105))
      clear hx hcell
      by_cases he : x = c
      · subst he
        clear hsn
        go_wp2
        go_ret2
        exact ⟨E2, .inl ⟨k, ⟨by rw [HL.out]; exact hlt, by rw [HX.out], hne.out⟩, rfl⟩⟩
      · have he' : (x == c) = false := by simpa using he
        have hne2 := Lib.hid (show ∀ j, j < k + 1 → (oth os j).1 ≠ c from fun j hj => by
          by_cases ej : j = k
          · subst ej; rw [HX.out]; exact he
          · exact hne.out j (by omega))
        by_cases hl : x < c
        · simp only [hl, if_true] at hsn
          replace hsn := Lib.hid hsn
          go_wp2
          go_roundw
          case rel => exact ⟨k + 1, k + 1, by omega, by omega, by go_num, by go_num, hsn.out, hne2.out, E2⟩
          case measure => simp [intOf]; omega
        · simp only [hl, if_false] at hsn
          replace hsn := Lib.hid hsn
          go_wp2
          go_roundw
          case rel => exact ⟨k + 1, bb, by omega, by omega, by go_num, rfl, hsn.out, hne2.out, E2⟩
          case measure => simp [intOf]; omega
    · obtain rfl : k = n := by omega
      rw [← HL.out, List.take_length] at hbe
      replace hbe := Lib.hid hbe
      replace hne := Lib.hid hne
      go_wp2
      go_ret2
      exact ⟨hb, .inr ⟨fun j hj => hne.out j (by rw [← HL.out]; exact hj), by rw [hbe.out]; rfl⟩⟩

end Go.Proofs.YtmooajppfjglaaaGreat
