/- The parts of impl/l05_note.go: what a note has, values, seals that can be sent, what is answered: contracts of each of them. -/
import Derived.Test.YtjdepjpjjgkmbaaGreatNoteShape
import Derived.Test.YtjdepjpjjgkmbaaGreatSpecStamp
namespace Go.Proofs.YtjdepjpjjgkmbaaGreat
open Go.RowKit

theorem isValue_any (x : Int) (w : World) :
    Calls Tryz.prog 225 #[.int .i64 x] w fun e w' => e = .returned (.bool (valB x)) ∧ w = w' := by
  go_enter Tryz.func225, Tryz.ntmps225
  go_wp2_with (go_at_call 143; refine (within_any _ _ _ _).mono ?_; rintro e w' ⟨rfl, rfl⟩)
  go_ret
  exact ⟨rfl, rfl⟩
theorem isValueB_is {x : Int} {b : Bool} (h : valB x = b) (w : World) : Calls Tryz.prog 225 #[.int .i64 x] w fun e w' => e = .returned (.bool b) ∧ w = w' := h ▸ isValue_any x w
theorem stampB_is {c k : Int} {b : Bool} (h : stB c k = b) (w : World) : Calls Tryz.prog 114 #[.agg #[.int .i64 c, .int .i64 k]] w fun e w' => e = .returned (.bool b) ∧ Below w.heap.size w w' := h ▸ stampOk_any c k w
theorem withinB_is {x lo hi : Int} {b : Bool} (h : inB x lo hi = b) (w : World) : Calls Tryz.prog 143 #[.int .i64 x, .int .i64 lo, .int .i64 hi] w fun e w' => e = .returned (.bool b) ∧ w = w' := h ▸ within_any x lo hi w

set_option maxHeartbeats 1000000 in
theorem hasValue_is (k1 k2 k3 k4 k5 t1 t2 v1 o1 o2 v2 : Int) (P : Option Addr) (p pc : Nat) (Q : Option Addr) (q qc : Nat) (l1 l2 v3 : Int) (w : World) :
    Calls Tryz.prog 240 #[.agg #[.int .i64 k1, .int .i64 k2, .int .i64 k3, .int .i64 k4, .int .i64 k5, .int .i64 t1, .int .i64 t2, .int .i64 v1, .int .i64 o1, .int .i64 o2, .int .i64 v2, .slice P p pc, .slice Q q qc, .int .i64 l1, .int .i64 l2, .int .i64 v3]] w fun e w' => e = .returned (.bool (hvB t1 t2 v1 p)) ∧ Below w.heap.size w w' := by
  have E0 := bel_alloc w (.cells #[.int .i64 k1, .int .i64 k2, .int .i64 k3, .int .i64 k4, .int .i64 k5, .int .i64 t1, .int .i64 t2, .int .i64 v1, .int .i64 o1, .int .i64 o2, .int .i64 v2, .slice P p pc, .slice Q q qc, .int .i64 l1, .int .i64 l2, .int .i64 v3] 85)
  rcases z2_cases t1 t2 with ⟨rfl, rfl, hz⟩ | ⟨hz, h | ⟨h, h'⟩⟩
  · rcases z1_cases v1 with ⟨rfl, hy⟩ | ⟨hy, h1, h2⟩
    · by_cases hp : p = 0
      · subst hp
        go_enter Tryz.func240, Tryz.ntmps240
        go_wp2
        go_ret
        exact ⟨rfl, E0⟩
      · have hp0 : 0 < p := by omega
        have HV : Hid (hvB 0 0 0 p = true) := by show hvB 0 0 0 p = true; simp [hvB, z0B, hp]
        go_enter Tryz.func240, Tryz.ntmps240
        go_wp2
        go_ret
        exact ⟨by rw [HV.out]; rfl, E0⟩
    · have HV : Hid (hvB 0 0 v1 p = true) := by show hvB 0 0 v1 p = true; simp [hvB, hy]
      go_enter Tryz.func240, Tryz.ntmps240
      go_wp2
      go_ret
      exact ⟨by rw [HV.out]; rfl, E0⟩
  all_goals
    have HV : Hid (hvB t1 t2 v1 p = true) := by show hvB t1 t2 v1 p = true; simp [hvB, hz]
    clear hz
    go_enter Tryz.func240, Tryz.ntmps240
    go_wp2
    go_ret
    exact ⟨by rw [HV.out]; rfl, E0⟩

end Go.Proofs.YtjdepjpjjgkmbaaGreat

/- The rest of impl/l05_note.go's parts: what was, seals that can be sent, stamps and values: contracts of each of them. -/
namespace Go.Proofs.YtjdepjpjjgkmbaaGreat
open Go.RowKit

set_option maxHeartbeats 1000000 in
theorem hasPast_is (k1 k2 k3 k4 k5 t1 t2 v1 o1 o2 v2 : Int) (P : Option Addr) (p pc : Nat) (Q : Option Addr) (q qc : Nat) (l1 l2 v3 : Int) (w : World) :
    Calls Tryz.prog 241 #[.agg #[.int .i64 k1, .int .i64 k2, .int .i64 k3, .int .i64 k4, .int .i64 k5, .int .i64 t1, .int .i64 t2, .int .i64 v1, .int .i64 o1, .int .i64 o2, .int .i64 v2, .slice P p pc, .slice Q q qc, .int .i64 l1, .int .i64 l2, .int .i64 v3]] w fun e w' => e = .returned (.bool (hpB o1 o2 v2 l1 l2 v3 q)) ∧ Below w.heap.size w w' := by
  have E0 := bel_alloc w (.cells #[.int .i64 k1, .int .i64 k2, .int .i64 k3, .int .i64 k4, .int .i64 k5, .int .i64 t1, .int .i64 t2, .int .i64 v1, .int .i64 o1, .int .i64 o2, .int .i64 v2, .slice P p pc, .slice Q q qc, .int .i64 l1, .int .i64 l2, .int .i64 v3] 85)
  rcases z2_cases o1 o2 with ⟨rfl, rfl, hz⟩ | ⟨hz, h | ⟨h, h'⟩⟩
  · rcases z1_cases v2 with ⟨rfl, hy⟩ | ⟨hy, h1, h2⟩
    · rcases z2_cases l1 l2 with ⟨rfl, rfl, hx⟩ | ⟨hx, h | ⟨h, h'⟩⟩
      · rcases z1_cases v3 with ⟨rfl, hu⟩ | ⟨hu, h1, h2⟩
        · by_cases hp : q = 0
          · subst hp
            go_enter Tryz.func241, Tryz.ntmps241
            go_wp2
            go_ret
            exact ⟨rfl, E0⟩
          · have hp0 : 0 < q := by omega
            have HV : Hid (hpB 0 0 0 0 0 0 q = true) := by show hpB 0 0 0 0 0 0 q = true; simp [hpB, z0B, hp]
            go_enter Tryz.func241, Tryz.ntmps241
            go_wp2
            go_ret
            exact ⟨by rw [HV.out]; rfl, E0⟩
        · have HV : Hid (hpB 0 0 0 0 0 v3 q = true) := by show hpB 0 0 0 0 0 v3 q = true; simp [hpB, hu]
          go_enter Tryz.func241, Tryz.ntmps241
          go_wp2
          go_ret
          exact ⟨by rw [HV.out]; rfl, E0⟩
      all_goals
        have HV : Hid (hpB 0 0 0 l1 l2 v3 q = true) := by show hpB 0 0 0 l1 l2 v3 q = true; simp [hpB, hx]
        clear hx hz hy
        go_enter Tryz.func241, Tryz.ntmps241
        go_wp2
        go_ret
        exact ⟨by rw [HV.out]; rfl, E0⟩
    · have HV : Hid (hpB 0 0 v2 l1 l2 v3 q = true) := by show hpB 0 0 v2 l1 l2 v3 q = true; simp [hpB, hy]
      go_enter Tryz.func241, Tryz.ntmps241
      go_wp2
      go_ret
      exact ⟨by rw [HV.out]; rfl, E0⟩
  all_goals
    have HV : Hid (hpB o1 o2 v2 l1 l2 v3 q = true) := by show hpB o1 o2 v2 l1 l2 v3 q = true; simp [hpB, hz]
    clear hz
    go_enter Tryz.func241, Tryz.ntmps241
    go_wp2
    go_ret
    exact ⟨by rw [HV.out]; rfl, E0⟩

set_option maxHeartbeats 1000000 in
theorem sealsFit_is (P : Option Addr) (p pc : Nat) (ps : List (Int × Int)) (w : World) (hm : p ≤ maxLen) (hr : Pairs w w.heap.size P p ps) :
    Calls Tryz.prog 232 #[.slice P p pc] w fun e w' => e = .returned (.bool (fitB ps)) ∧ Below w.heap.size w w' := by
  unfold maxLen at hm
  have HL := Lib.hid hr.1
  have HR := Lib.hid hr
  clear hr
  by_cases h20 : p ≤ 20
  · have HF : Hid (fitB ps = sealsB ps) := fit_yes (by rw [HL.out]; exact h20)
    have h20' : ¬ (20 : Int) < p := by omega
    go_enter Tryz.func232, Tryz.ntmps232
    go_wp2_with fail
    go_loopw [10] (fun i wr => ∃ k : Nat, k ≤ p ∧ i = .int .i64 k ∧ Hid (∀ j, j < k → seal1B (pth ps j) = true) ∧ Below w.heap.size w wr) (fun i _ => p - (intOf i).toNat)
    case atStart => exact ⟨0, Nat.zero_le _, rfl, fun j hj => absurd hj (by omega), Below.refl _ _⟩
    case round =>
      obtain ⟨k, hk, rfl, hall, hb⟩ := hrel
      by_cases hlt : k < p
      · obtain ⟨b, o, hA, hbB, hcell⟩ := HR.out.2 (by omega)
        subst hA
        obtain ⟨g0, g1⟩ := hcell k hlt
        have g0 := (hb.cell (p := ⟨b, o + k * 2, none⟩) hbB).trans g0
        have g1 := (hb.cell (p := ⟨b, o + k * 2 + 1, none⟩) hbB).trans g1
        generalize hx : pth ps k = x at g0 g1
        obtain ⟨x, y⟩ := x
        have HX := Lib.hid hx
        have hlt' : (k : Int) < (p : Int) := by omega
        clear hx hcell
        rcases h1 : inB x 0 9 with _ | _
        · have HS : Hid (sealsB ps = false) := sealsB_false (k := k) (by rw [HL.out]; exact hlt) (by rw [HX.out]; simp [seal1B, h1])
          go_wp2_with (go_at_call 143; refine (within_any _ _ _ _).mono ?_; rintro e w' ⟨rfl, rfl⟩)
          go_ret
          exact ⟨by rw [HF.out, HS.out]; rfl, by first | exact bel_trans hb (bel_alloc _ _) | exact ((bel_trans hb (bel_alloc _ _)).setCell (by have := hb.size; simp; omega) _).setCell (by have := hb.size; simp; omega) _⟩
        · rcases h2 : inB y 0 2147483646 with _ | _
          · have HS : Hid (sealsB ps = false) := sealsB_false (k := k) (by rw [HL.out]; exact hlt) (by rw [HX.out]; simp [seal1B, h2])
            go_wp2_with (go_at_call 143; refine (within_any _ _ _ _).mono ?_; rintro e w' ⟨rfl, rfl⟩)
            go_ret
            exact ⟨by rw [HF.out, HS.out]; rfl, by first | exact bel_trans hb (bel_alloc _ _) | exact ((bel_trans hb (bel_alloc _ _)).setCell (by have := hb.size; simp; omega) _).setCell (by have := hb.size; simp; omega) _⟩
          · have HS : Hid (∀ j, j < k + 1 → seal1B (pth ps j) = true) := fun j hj => by
              rcases Nat.lt_or_ge j k with h | h
              · exact hall.out j h
              · have e : j = k := by omega
                rw [e, HX.out]
                simp [seal1B, h1, h2]
            go_wp2_with (go_at_call 143; refine (within_any _ _ _ _).mono ?_; rintro e w' ⟨rfl, rfl⟩)
            go_roundw
            case rel => exact ⟨k + 1, by omega, by go_num, HS, by first | exact bel_trans hb (bel_alloc _ _) | exact ((bel_trans hb (bel_alloc _ _)).setCell (by have := hb.size; simp; omega) _).setCell (by have := hb.size; simp; omega) _⟩
            case measure => simp [intOf]; omega
      · have HT : Hid (sealsB ps = true) := sealsB_true fun j hj => hall.out j (by have := HL.out; omega)
        go_wp2
        go_ret
        exact ⟨by rw [HF.out, HT.out]; rfl, hb⟩
  · have HF : Hid (fitB ps = false) := fit_no (by rw [HL.out]; exact h20)
    have h20' : (20 : Int) < p := by omega
    go_enter Tryz.func232, Tryz.ntmps232
    go_wp2
    go_ret
    exact ⟨by rw [HF.out]; rfl, Below.refl _ _⟩
theorem sealsFitB_is {ps : List (Int × Int)} {b : Bool} (h : fitB ps = b) (P : Option Addr) (p pc : Nat) (w : World) (hm : p ≤ maxLen) (hr : Pairs w w.heap.size P p ps) :
    Calls Tryz.prog 232 #[.slice P p pc] w fun e w' => e = .returned (.bool b) ∧ Below w.heap.size w w' := h ▸ sealsFit_is P p pc ps w hm hr

set_option maxHeartbeats 2000000 in
theorem stampsOk_is (k1 k2 k3 k4 k5 t1 t2 v1 o1 o2 v2 : Int) (P : Option Addr) (p pc : Nat) (Q : Option Addr) (q qc : Nat) (l1 l2 v3 : Int) (w : World) :
    Calls Tryz.prog 230 #[.agg #[.int .i64 k1, .int .i64 k2, .int .i64 k3, .int .i64 k4, .int .i64 k5, .int .i64 t1, .int .i64 t2, .int .i64 v1, .int .i64 o1, .int .i64 o2, .int .i64 v2, .slice P p pc, .slice Q q qc, .int .i64 l1, .int .i64 l2, .int .i64 v3]] w fun e w' => e = .returned (.bool (stsB t1 t2 o1 o2 l1 l2)) ∧ Below w.heap.size w w' := by
  have E0 := bel_alloc w (.cells #[.int .i64 k1, .int .i64 k2, .int .i64 k3, .int .i64 k4, .int .i64 k5, .int .i64 t1, .int .i64 t2, .int .i64 v1, .int .i64 o1, .int .i64 o2, .int .i64 v2, .slice P p pc, .slice Q q qc, .int .i64 l1, .int .i64 l2, .int .i64 v3] 85)
  have D := Box.new w 85 #[.int .i64 k1, .int .i64 k2, .int .i64 k3, .int .i64 k4, .int .i64 k5, .int .i64 t1, .int .i64 t2, .int .i64 v1, .int .i64 o1, .int .i64 o2, .int .i64 v2, .slice P p pc, .slice Q q qc, .int .i64 l1, .int .i64 l2, .int .i64 v3]
  obtain ⟨a0, a1, a2, a3, a4, a5, a6, a7, a8, a9, a10, a11, a12, a13, a14, a15⟩ := sixteen D
  rcases h1 : stB t1 t2 with _ | _
  · have HV : Hid (stsB t1 t2 o1 o2 l1 l2 = false) := by show stsB t1 t2 o1 o2 l1 l2 = false; simp [stsB, h1]
    have H1 := Lib.hid h1
    clear h1
    go_enter Tryz.func230, Tryz.ntmps230
    go_wp2_with fail
    refine (stampB_is H1.out _).mono ?_
    rintro e w1 ⟨rfl, hb1⟩
    go_wp2
    go_ret
    exact ⟨by rw [HV.out]; rfl, bel_trans E0 hb1⟩
  rcases h2 : stB o1 o2 with _ | _
  · have HV : Hid (stsB t1 t2 o1 o2 l1 l2 = false) := by show stsB t1 t2 o1 o2 l1 l2 = false; simp [stsB, h2]
    have H1 := Lib.hid h1
    have H2 := Lib.hid h2
    clear h1 h2
    go_enter Tryz.func230, Tryz.ntmps230
    go_wp2_with fail
    refine (stampB_is H1.out _).mono ?_
    rintro e w1 ⟨rfl, hb1⟩
    have D1 := D.later hb1 D.lt
    clear a0 a1 a2 a3 a4 a5 a6 a7 a8 a9 a10 a11 a12 a13 a14 a15
    obtain ⟨a0, a1, a2, a3, a4, a5, a6, a7, a8, a9, a10, a11, a12, a13, a14, a15⟩ := sixteen D1
    go_wp2_with fail
    refine (stampB_is H2.out _).mono ?_
    rintro e w2 ⟨rfl, hb2⟩
    go_wp2
    go_ret
    exact ⟨by rw [HV.out]; rfl, bel_trans E0 (bel_trans hb1 hb2)⟩
  rcases h3 : stB l1 l2 with _ | _
  all_goals
    have HV := Lib.hid (show stsB t1 t2 o1 o2 l1 l2 = (true && true && _) by rw [stsB, h1, h2, h3])
    have H1 := Lib.hid h1
    have H2 := Lib.hid h2
    have H3 := Lib.hid h3
    clear h1 h2 h3
    go_enter Tryz.func230, Tryz.ntmps230
    go_wp2_with fail
    refine (stampB_is H1.out _).mono ?_
    rintro e w1 ⟨rfl, hb1⟩
    have D1 := D.later hb1 D.lt
    clear a0 a1 a2 a3 a4 a5 a6 a7 a8 a9 a10 a11 a12 a13 a14 a15
    obtain ⟨a0, a1, a2, a3, a4, a5, a6, a7, a8, a9, a10, a11, a12, a13, a14, a15⟩ := sixteen D1
    go_wp2_with fail
    refine (stampB_is H2.out _).mono ?_
    rintro e w2 ⟨rfl, hb2⟩
    have D2 := D1.later hb2 D1.lt
    clear a0 a1 a2 a3 a4 a5 a6 a7 a8 a9 a10 a11 a12 a13 a14 a15
    obtain ⟨a0, a1, a2, a3, a4, a5, a6, a7, a8, a9, a10, a11, a12, a13, a14, a15⟩ := sixteen D2
    go_wp2_with fail
    refine (stampB_is H3.out _).mono ?_
    rintro e w3 ⟨rfl, hb3⟩
    go_wp2
    go_ret
    exact ⟨by rw [HV.out]; rfl, bel_trans E0 (bel_trans hb1 (bel_trans hb2 hb3))⟩

set_option maxHeartbeats 2000000 in
theorem valuesOk_is (k1 k2 k3 k4 k5 t1 t2 v1 o1 o2 v2 : Int) (P : Option Addr) (p pc : Nat) (Q : Option Addr) (q qc : Nat) (l1 l2 v3 : Int) (w : World) :
    Calls Tryz.prog 231 #[.agg #[.int .i64 k1, .int .i64 k2, .int .i64 k3, .int .i64 k4, .int .i64 k5, .int .i64 t1, .int .i64 t2, .int .i64 v1, .int .i64 o1, .int .i64 o2, .int .i64 v2, .slice P p pc, .slice Q q qc, .int .i64 l1, .int .i64 l2, .int .i64 v3]] w fun e w' => e = .returned (.bool (valsB v1 v2 v3)) ∧ Below w.heap.size w w' := by
  have E0 := bel_alloc w (.cells #[.int .i64 k1, .int .i64 k2, .int .i64 k3, .int .i64 k4, .int .i64 k5, .int .i64 t1, .int .i64 t2, .int .i64 v1, .int .i64 o1, .int .i64 o2, .int .i64 v2, .slice P p pc, .slice Q q qc, .int .i64 l1, .int .i64 l2, .int .i64 v3] 85)
  have D := Box.new w 85 #[.int .i64 k1, .int .i64 k2, .int .i64 k3, .int .i64 k4, .int .i64 k5, .int .i64 t1, .int .i64 t2, .int .i64 v1, .int .i64 o1, .int .i64 o2, .int .i64 v2, .slice P p pc, .slice Q q qc, .int .i64 l1, .int .i64 l2, .int .i64 v3]
  obtain ⟨a0, a1, a2, a3, a4, a5, a6, a7, a8, a9, a10, a11, a12, a13, a14, a15⟩ := sixteen D
  rcases h1 : valB v1 with _ | _
  · have HV : Hid (valsB v1 v2 v3 = false) := by show valsB v1 v2 v3 = false; simp [valsB, h1]
    go_enter Tryz.func231, Tryz.ntmps231
    go_wp2_with (go_at_call 225; refine (isValue_any _ _).mono ?_; rintro e w' ⟨rfl, rfl⟩)
    go_ret
    exact ⟨by rw [HV.out]; rfl, E0⟩
  rcases h2 : valB v2 with _ | _
  · have HV : Hid (valsB v1 v2 v3 = false) := by show valsB v1 v2 v3 = false; simp [valsB, h2]
    go_enter Tryz.func231, Tryz.ntmps231
    go_wp2_with (go_at_call 225; refine (isValue_any _ _).mono ?_; rintro e w' ⟨rfl, rfl⟩)
    go_ret
    exact ⟨by rw [HV.out]; rfl, E0⟩
  rcases h3 : valB v3 with _ | _
  all_goals
    have HV := Lib.hid (show valsB v1 v2 v3 = (true && true && _) by rw [valsB, h1, h2, h3])
    go_enter Tryz.func231, Tryz.ntmps231
    go_wp2_with (go_at_call 225; refine (isValue_any _ _).mono ?_; rintro e w' ⟨rfl, rfl⟩)
    go_ret
    exact ⟨by rw [HV.out]; rfl, E0⟩

end Go.Proofs.YtjdepjpjjgkmbaaGreat
