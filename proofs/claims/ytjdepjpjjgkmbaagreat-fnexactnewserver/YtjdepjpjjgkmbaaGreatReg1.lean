/- The opens of a shelf: where the one of a client stands, and which it is (the program's and the model's): contracts of each of them. -/
import Derived.Test.YtjdepjpjjgkmbaaGreatRegBase
namespace Go.Proofs.YtjdepjpjjgkmbaaGreat
open Go.RowKit

/-- What placeOf answers. -/
def Place (c : Int) (os : List Opn) (w : World) (e : Ending) (w' : World) : Prop :=
  Below w.heap.size w w' ∧ ((∃ i : Nat, firstAt c os i ∧ e = .returned (.tuple #[.int .i64 (i : Int), .int .i64 ((i : Int) + 1)])) ∨ (noneAt c os ∧ e = .returned (.tuple #[.int .i64 (behN c os : Int), .int .i64 (behN c os : Int)])))

set_option maxHeartbeats 1000000 in
theorem placeOf_is (A : Option Addr) (n cap : Nat) (os : List Opn) (c : Int) (w : World) (hm : n ≤ 4194304) (hr : Quads w w.heap.size A n os) :
    Calls Tryz.prog 113 #[.slice A n cap, .int .i64 c] w (Place c os w) := by
  have HR := Lib.hid hr
  have HL := Lib.hid hr.1
  clear hr
  go_enter Tryz.func113, Tryz.ntmps113
  go_wp2_with fail
  go_loopw [6, 11] (fun bv iv wr => ∃ k b : Nat, k ≤ n ∧ b ≤ k ∧ iv = .int .i64 k ∧ bv = .int .i64 b ∧ behN c (os.take k) = b ∧ (∀ j, j < k → (oth os j).1 ≠ c) ∧ Below w.heap.size w wr) (fun _ i _ => n - (intOf i).toNat)
  case atStart => exact ⟨0, 0, Nat.zero_le _, Nat.le_refl _, rfl, rfl, rfl, fun j hj => absurd hj (by omega), Below.refl _ _⟩
  case round =>
    obtain ⟨k, bb, hk, hbk, rfl, rfl, hbe, hne, hb⟩ := hrel
    by_cases hlt : k < n
    · obtain ⟨b, o, hA, hbB, hcell⟩ := HR.out.2 (by omega)
      subst hA
      obtain ⟨g0, g1, g2, g3⟩ := hcell k hlt
      have g0 := (hb.cell (p := ⟨b, o + k * 4, none⟩) hbB).trans g0
      have g1 := (hb.cell (p := ⟨b, o + k * 4 + 1, none⟩) hbB).trans g1
      have g2 := (hb.cell (p := ⟨b, o + k * 4 + 2, none⟩) hbB).trans g2
      have g3 := (hb.cell (p := ⟨b, o + k * 4 + 3, none⟩) hbB).trans g3
      have hsn := behN_snoc (c := c) (os := os) (k := k) (by rw [HL.out]; exact hlt)
      generalize hx : oth os k = x at g0 g1 g2 g3 hsn
      obtain ⟨x, y, z, u⟩ := x
      have HX := Lib.hid hx
      have hlt' : (k : Int) < (n : Int) := by omega
      rw [hbe] at hsn
      replace hbe := Lib.hid hbe
      replace hne := Lib.hid hne
      have E2 := bel_trans hb (bel_alloc wr (.cells #[.int .i64 x, .int .i64 y, .int .i64 z, .int .i64 u] 97))
      clear hx hcell
      by_cases he : x = c
      · subst he
        clear hsn
        go_wp2
        go_ret2
        exact ⟨E2, .inl ⟨k, ⟨by rw [HL.out]; exact hlt, by rw [HX.out], hne.out⟩, rfl⟩⟩
      · have he' : (x == c) = false := by simpa using he
        have hne2 := Lib.hid (show ∀ j, j < k + 1 → (oth os j).1 ≠ c from fun j hj => by
          by_cases ej : j = k
          · subst ej; rw [HX.out]; exact he
          · exact hne.out j (by omega))
        by_cases hl : x < c
        · simp only [hl, if_true] at hsn
          replace hsn := Lib.hid hsn
          go_wp2
          go_roundw
          case rel => exact ⟨k + 1, k + 1, by omega, by omega, by go_num, by go_num, hsn.out, hne2.out, E2⟩
          case measure => simp [intOf]; omega
        · simp only [hl, if_false] at hsn
          replace hsn := Lib.hid hsn
          go_wp2
          go_roundw
          case rel => exact ⟨k + 1, bb, by omega, by omega, by go_num, rfl, hsn.out, hne2.out, E2⟩
          case measure => simp [intOf]; omega
    · obtain rfl : k = n := by omega
      rw [← HL.out, List.take_length] at hbe
      replace hbe := Lib.hid hbe
      replace hne := Lib.hid hne
      go_wp2
      go_ret2
      exact ⟨hb, .inr ⟨fun j hj => hne.out j (by rw [← HL.out]; exact hj), by rw [hbe.out]; rfl⟩⟩

set_option maxHeartbeats 1000000 in
theorem openOf_is (rt rq rv : Int) (P : Option Addr) (p pc : Nat) (Q : Option Addr) (q qc : Nat) (os : List Opn) (c : Int) (w : World) (hq : q ≤ 4194304) (hr : Quads w w.heap.size Q q os) :
    Calls Tryz.prog 58 #[.agg #[.int .i64 rt, .int .i64 rq, .int .i64 rv, .slice P p pc, .slice Q q qc], .int .i64 c] w fun e w' => e = .returned (opV (getO os c)) ∧ Below w.heap.size w w' := by
  have D := (Box.new w 80 #[.int .i64 rt, .int .i64 rq, .int .i64 rv, .slice P p pc, .slice Q q qc]).alloc (.cells #[.int .i64 0, .int .i64 0, .int .i64 0, .int .i64 0] 97)
  have X := Box.new (w.alloc (.cells #[.int .i64 rt, .int .i64 rq, .int .i64 rv, .slice P p pc, .slice Q q qc] 80)) 97 #[.int .i64 0, .int .i64 0, .int .i64 0, .int .i64 0]
  have hb0 := bel_trans (bel_alloc w (.cells #[.int .i64 rt, .int .i64 rq, .int .i64 rv, .slice P p pc, .slice Q q qc] 80)) (bel_alloc _ (.cells #[.int .i64 0, .int .i64 0, .int .i64 0, .int .i64 0] 97))
  simp only [World.size_alloc] at X
  have H0 := Lib.hid (hr.later hb0)
  have HL := Lib.hid hr.1
  clear hr
  go_enter Tryz.func58, Tryz.ntmps58
  go_wp2_with fail
  generalize ((w.alloc _).alloc _ : World) = w0 at hb0 D X H0 ⊢
  refine (placeOf_is Q q qc os c w0 hq H0.out).mono ?_
  rintro e w1 ⟨hb1, ⟨i, hi, rfl⟩ | ⟨hno, rfl⟩⟩
  · have D1 := D.later hb1 D.lt
    have X1 := X.later hb1 X.lt
    have E1 := bel_trans hb0 hb1
    have H1 := H0.out.later hb1
    clear D X hb0 hb1 H0
    obtain ⟨d0, d1, d2, d3, d4⟩ := D1.five
    obtain ⟨x0, x1, x2, x3⟩ := X1.four
    have fx := X1.frozen
    have hiq : i < q := by have := hi.1; rw [HL.out] at this; exact this
    obtain ⟨b, o, hA, hbB, hcell⟩ := H1.2 (by omega)
    subst hA
    obtain ⟨g0, g1, g2, g3⟩ := hcell i hiq
    have HG := Lib.hid (getO_some hi)
    generalize oth os i = y at g0 g1 g2 g3 HG
    obtain ⟨y0, y1, y2, y3⟩ := y
    replace hi := Lib.hid hi
    have hiq' : (i : Int) < (q : Int) := by omega
    have hne : ((i : Int) == (i : Int) + 1) = false := by simp; omega
    clear hcell H1
    go_wp2
    exact bodyPost_ret (v := .tuple #[.agg #[.int .i64 y0, .int .i64 y1, .int .i64 y2, .int .i64 y3], .bool true]) (by simp [results, Tryz.results58, go_sem, x0, x1, x2, x3]) rfl ⟨by rw [HG.out]; rfl, by
      repeat (first | (with_reducible exact E1) | refine Below.setCell ?_ (by simp; try omega) _)⟩
  · have D1 := D.later hb1 D.lt
    have X1 := X.later hb1 X.lt
    have E1 := bel_trans hb0 hb1
    clear D X hb0 hb1 H0
    obtain ⟨x0, x1, x2, x3⟩ := X1.four
    have fx := X1.frozen
    have HG := Lib.hid (getO_none hno)
    replace hno := Lib.hid hno
    go_wp2
    exact bodyPost_ret (v := .tuple #[.agg #[.int .i64 0, .int .i64 0, .int .i64 0, .int .i64 0], .bool false]) (by simp [results, Tryz.results58, go_sem, x0, x1, x2, x3]) rfl ⟨by rw [HG.out]; rfl, by
      repeat (first | (with_reducible exact E1) | refine Below.setCell ?_ (by simp; try omega) _)⟩

set_option maxHeartbeats 1000000 in
theorem specOpenOf_is (rt rq rv : Int) (P : Option Addr) (p pc : Nat) (Q : Option Addr) (q qc : Nat) (os : List Opn) (c : Int) (w : World) (hq : q ≤ 4194304) (hr : Quads w w.heap.size Q q os) :
    Calls Tryz.prog 112 #[.agg #[.int .i64 rt, .int .i64 rq, .int .i64 rv, .slice P p pc, .slice Q q qc], .int .i64 c] w fun e w' => e = .returned (opV (getO os c)) ∧ Below w.heap.size w w' := by
  have D := (Box.new w 80 #[.int .i64 rt, .int .i64 rq, .int .i64 rv, .slice P p pc, .slice Q q qc]).alloc (.cells #[.int .i64 0, .int .i64 0, .int .i64 0, .int .i64 0] 97)
  have X := Box.new (w.alloc (.cells #[.int .i64 rt, .int .i64 rq, .int .i64 rv, .slice P p pc, .slice Q q qc] 80)) 97 #[.int .i64 0, .int .i64 0, .int .i64 0, .int .i64 0]
  have hb0 := bel_trans (bel_alloc w (.cells #[.int .i64 rt, .int .i64 rq, .int .i64 rv, .slice P p pc, .slice Q q qc] 80)) (bel_alloc _ (.cells #[.int .i64 0, .int .i64 0, .int .i64 0, .int .i64 0] 97))
  simp only [World.size_alloc] at X
  have H0 := Lib.hid (hr.later hb0)
  have HL := Lib.hid hr.1
  clear hr
  go_enter Tryz.func112, Tryz.ntmps112
  go_wp2_with fail
  generalize ((w.alloc _).alloc _ : World) = w0 at hb0 D X H0 ⊢
  obtain ⟨d0, d1, d2, d3, d4⟩ := D.five
  obtain ⟨x0, x1, x2, x3⟩ := X.four
  have fx := X.frozen
  go_loopw [6] (fun iv wr => ∃ k : Nat, k ≤ q ∧ iv = .int .i64 k ∧ (∀ j, j < k → (oth os j).1 ≠ c) ∧ w0 = wr) (fun i _ => q - (intOf i).toNat)
  case atStart => exact ⟨0, Nat.zero_le _, rfl, fun j hj => absurd hj (by omega), rfl⟩
  case round =>
    obtain ⟨k, hk, rfl, hne, rfl⟩ := hrel
    by_cases hlt : k < q
    · obtain ⟨b, o, hA, hbB, hcell⟩ := H0.out.2 (by omega)
      subst hA
      obtain ⟨g0, g1, g2, g3⟩ := hcell k hlt
      generalize hx : oth os k = x at g0 g1 g2 g3
      obtain ⟨x, y, z, u⟩ := x
      have HX := Lib.hid hx
      have hlt' : (k : Int) < (q : Int) := by omega
      replace hne := Lib.hid hne
      clear hx hcell
      by_cases he : x = c
      · subst he
        have hf : firstAt x os k := ⟨by rw [HL.out]; exact hlt, by rw [HX.out], hne.out⟩
        have HG := Lib.hid (getO_some hf)
        rw [HX.out] at HG
        clear hf
        go_wp2
        exact bodyPost_ret (v := .tuple #[.agg #[.int .i64 x, .int .i64 y, .int .i64 z, .int .i64 u], .bool true]) (by simp [results, Tryz.results112, go_sem, x0, x1, x2, x3]) rfl ⟨by rw [HG.out]; rfl, by
          repeat (first | (with_reducible exact hb0) | refine Below.setCell ?_ (by simp; try omega) _)⟩
      · have he' : (x == c) = false := by simpa using he
        have hne2 := Lib.hid (show ∀ j, j < k + 1 → (oth os j).1 ≠ c from fun j hj => by
          by_cases ej : j = k
          · subst ej; rw [HX.out]; exact he
          · exact hne.out j (by omega))
        go_wp2
        go_roundw
        case rel => exact ⟨k + 1, by omega, by go_num, hne2.out, trivial⟩
        case measure => simp [intOf]; omega
    · obtain rfl : k = q := by omega
      have HG := Lib.hid (getO_none (c := c) (os := os) fun j hj => hne j (by rw [← HL.out]; exact hj))
      replace hne := Lib.hid hne
      go_wp2
      exact bodyPost_ret (v := .tuple #[.agg #[.int .i64 0, .int .i64 0, .int .i64 0, .int .i64 0], .bool false]) (by simp [results, Tryz.results112, go_sem, x0, x1, x2, x3]) rfl ⟨by rw [HG.out]; rfl, by
        repeat (first | (with_reducible exact hb0) | refine Below.setCell ?_ (by simp; try omega) _)⟩

end Go.Proofs.YtjdepjpjjgkmbaaGreat
