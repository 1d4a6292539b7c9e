/- The parts of the model's NoteOk: values, seals that can be sent, what a kind has not; what the model answers: contracts of each of them. -/
import Derived.Test.YtjdepjpjjgkmbaaGreatNoteShape
import Derived.Test.YtjdepjpjjgkmbaaGreatSpecStamp
import Derived.Deep.CutBlock
namespace Go.Proofs.YtjdepjpjjgkmbaaGreat
open Go.RowKit

theorem specValue_any (x : Int) (w : World) :
    Calls Tryz.prog 196 #[.int .i64 x] w fun e w' => e = .returned (.bool (valB x)) ∧ w = w' := by
  go_enter Tryz.func196, Tryz.ntmps196
  go_wp2_with (go_at_call 174; refine (l1In_any _ _ _ _).mono ?_; rintro e w' ⟨rfl, rfl⟩)
  go_ret
  exact ⟨rfl, rfl⟩
theorem l3M_any (w : World) : Calls Tryz.prog 206 #[] w fun e w' => e = .returned (.int .i64 2147483647) ∧ w = w' := by
  go_enter Tryz.func206, Tryz.ntmps206
  go_wp2
  go_ret
  exact ⟨rfl, rfl⟩
theorem l1InB_is {x lo hi : Int} {b : Bool} (h : inB x lo hi = b) (w : World) : Calls Tryz.prog 174 #[.int .i64 x, .int .i64 lo, .int .i64 hi] w fun e w' => e = .returned (.bool b) ∧ w = w' := h ▸ l1In_any x lo hi w
theorem specStampB_is {c k : Int} {b : Bool} (h : stB c k = b) (w : World) : Calls Tryz.prog 195 #[.agg #[.int .i64 c, .int .i64 k]] w fun e w' => e = .returned (.bool b) ∧ Below w.heap.size w w' := h ▸ specStampOk_any c k w
theorem specServerB_is {s l c sh : Int} {zs : List Int} {x : Int} {b : Bool} (h : srvB s l c sh zs x = b) (A : Option Addr) (n cap : Nat) (w : World) (hm : n ≤ maxLen) (hr : Row w w.heap.size A n zs) :
    Calls Tryz.prog 117 #[.agg #[.int .i64 s, .int .i64 l, .int .i64 c, .int .i64 sh, .slice A n cap], .int .i64 x] w fun e w' => e = .returned (.bool b) ∧ Below w.heap.size w w' := h ▸ specServer_any s l c sh A n cap zs x w hm hr
theorem specClientB_is {s l c sh : Int} {zs : List Int} {x : Int} {b : Bool} (h : cliB s l c sh zs x = b) (A : Option Addr) (n cap : Nat) (w : World) (hm : n ≤ maxLen) (hr : Row w w.heap.size A n zs) :
    Calls Tryz.prog 194 #[.agg #[.int .i64 s, .int .i64 l, .int .i64 c, .int .i64 sh, .slice A n cap], .int .i64 x] w fun e w' => e = .returned (.bool b) ∧ Below w.heap.size w w' := h ▸ specClient_any s l c sh A n cap zs x w hm hr

set_option maxHeartbeats 1000000 in
theorem specSeals_is (P : Option Addr) (p pc : Nat) (ps : List (Int × Int)) (w : World) (hm : p ≤ maxLen) (hr : Pairs w w.heap.size P p ps) :
    Calls Tryz.prog 197 #[.slice P p pc] w fun e w' => e = .returned (.bool (fitB ps)) ∧ Below w.heap.size w w' := by
  unfold maxLen at hm
  have HL := Lib.hid hr.1
  have HR := Lib.hid hr
  clear hr
  go_enter Tryz.func197, Tryz.ntmps197
  go_wp2_with fail
  go_loopw [3] (fun i wr => ∃ k : Nat, k ≤ p ∧ i = .int .i64 k ∧ Hid (∀ j, j < k → seal1B (pth ps j) = true) ∧ Below w.heap.size w wr) (fun i _ => p - (intOf i).toNat)
  case atStart => exact ⟨0, Nat.zero_le _, rfl, fun j hj => absurd hj (by omega), Below.refl _ _⟩
  case round =>
    obtain ⟨k, hk, rfl, hall, hb⟩ := hrel
    by_cases hlt : k < p
    · obtain ⟨b, o, hA, hbB, hcell⟩ := HR.out.2 (by omega)
      subst hA
      obtain ⟨g0, g1⟩ := hcell k hlt
      have hz := hb.size
      have g0 := After.cell (w := wr) (a := ⟨b, o + k * 2, none⟩) (by simp; omega) ((hb.cell (p := ⟨b, o + k * 2, none⟩) hbB).trans g0)
      have g1 := After.cell (w := wr) (a := ⟨b, o + k * 2 + 1, none⟩) (by simp; omega) ((hb.cell (p := ⟨b, o + k * 2 + 1, none⟩) hbB).trans g1)
      generalize hx : pth ps k = x at g0 g1
      obtain ⟨x, y⟩ := x
      have HX := Lib.hid hx
      have hlt' : (k : Int) < (p : Int) := by omega
      clear hx hcell
      rcases h1 : inB x 0 9 with _ | _
      · have HS : Hid (fitB ps = false) := by
          show fitB ps = false
          rw [fitB, sealsB_false (k := k) (by rw [HL.out]; exact hlt) (by rw [HX.out]; simp [seal1B, h1])]
          simp
        have H1 := Lib.hid h1
        clear h1
        go_wp2_with fail
        refine wp_region_after (by kernel_rfl) (by kernel_rfl) ?_
        repeat (first | go_big_quiet_step ((go_at_call 174; exact after_same (l1InB_is H1.out _))) | quiet_step ((go_at_call 174; exact after_same (l1InB_is H1.out _))))
        refine wpQuiet_nil ?_
        intro pw
        have E := bel_trans hb pw.bel
        go_wp2
        go_ret
        exact ⟨by rw [HS.out]; rfl, E⟩
      · rcases h2 : inB y 0 2147483646 with _ | _
        · have HS : Hid (fitB ps = false) := by
            show fitB ps = false
            rw [fitB, sealsB_false (k := k) (by rw [HL.out]; exact hlt) (by rw [HX.out]; simp [seal1B, h2])]
            simp
          have H1 := Lib.hid h1
          have H2 := Lib.hid h2
          clear h1 h2
          go_wp2_with fail
          refine wp_region_after (by kernel_rfl) (by kernel_rfl) ?_
          repeat (first | go_big_quiet_step (first | (go_at_call 174; first | with_reducible exact after_same (l1InB_is H1.out _) | with_reducible exact after_same (l1InB_is H2.out _)) | (go_at_call 206; exact after_same (l3M_any _))) | quiet_step (first | (go_at_call 174; first | with_reducible exact after_same (l1InB_is H1.out _) | with_reducible exact after_same (l1InB_is H2.out _)) | (go_at_call 206; exact after_same (l3M_any _))))
          refine wpQuiet_nil ?_
          intro pw
          have E := bel_trans hb pw.bel
          go_wp2
          go_ret
          exact ⟨by rw [HS.out]; rfl, E⟩
        · have HS : Hid (∀ j, j < k + 1 → seal1B (pth ps j) = true) := fun j hj => by
            rcases Nat.lt_or_ge j k with h | h
            · exact hall.out j h
            · have e : j = k := by omega
              rw [e, HX.out]
              simp [seal1B, h1, h2]
          have H1 := Lib.hid h1
          have H2 := Lib.hid h2
          clear h1 h2
          go_wp2_with fail
          refine wp_region_after (by kernel_rfl) (by kernel_rfl) ?_
          repeat (first | go_big_quiet_step (first | (go_at_call 174; first | with_reducible exact after_same (l1InB_is H1.out _) | with_reducible exact after_same (l1InB_is H2.out _)) | (go_at_call 206; exact after_same (l3M_any _))) | quiet_step (first | (go_at_call 174; first | with_reducible exact after_same (l1InB_is H1.out _) | with_reducible exact after_same (l1InB_is H2.out _)) | (go_at_call 206; exact after_same (l3M_any _))))
          refine wpQuiet_nil ?_
          intro pw
          have E := bel_trans hb pw.bel
          go_wp2
          go_roundw
          case rel => exact ⟨k + 1, by omega, by go_num, HS, E⟩
          case measure => simp [intOf]; omega
    · have HT : Hid (sealsB ps = true) := sealsB_true fun j hj => hall.out j (by have := HL.out; omega)
      by_cases h20 : p ≤ 20
      · have HF : Hid (fitB ps = sealsB ps) := fit_yes (by rw [HL.out]; exact h20)
        have h20' : (p : Int) ≤ 20 := by omega
        go_wp2
        go_ret
        exact ⟨by rw [HF.out, HT.out]; rfl, hb⟩
      · have HF : Hid (fitB ps = false) := fit_no (by rw [HL.out]; exact h20)
        have h20' : ¬ (p : Int) ≤ 20 := by omega
        go_wp2
        go_ret
        exact ⟨by rw [HF.out]; rfl, hb⟩
theorem specSealsB_is {ps : List (Int × Int)} {b : Bool} (h : fitB ps = b) (P : Option Addr) (p pc : Nat) (w : World) (hm : p ≤ maxLen) (hr : Pairs w w.heap.size P p ps) :
    Calls Tryz.prog 197 #[.slice P p pc] w fun e w' => e = .returned (.bool b) ∧ Below w.heap.size w w' := h ▸ specSeals_is P p pc ps w hm hr

/-- The answer of l4Zero, whatever the stamp. -/
theorem zero_is (a b : Int) (w : World) : Calls Tryz.prog 161 #[.agg #[.int .i64 a, .int .i64 b]] w fun e w' => e = .returned (.bool (z2B a b)) ∧ Below w.heap.size w w' := by
  rcases z2_cases a b with ⟨rfl, rfl, hz⟩ | ⟨hz, h⟩
  · exact hz ▸ l4Zero_yes w
  · exact hz ▸ l4Zero_no a b h w
theorem zeroB_is {a b : Int} {r : Bool} (h : z2B a b = r) (w : World) : Calls Tryz.prog 161 #[.agg #[.int .i64 a, .int .i64 b]] w fun e w' => e = .returned (.bool r) ∧ Below w.heap.size w w' := h ▸ zero_is a b w

/-- Has a note nothing that its kind has not? -/
def emB (k1 : Int) (hv hp : Bool) : Bool := if k1 = 1 then !hv && !hp else if k1 = 3 then true else !hp

theorem em_1 {t1 t2 v1 o1 o2 v2 l1 l2 v3 : Int} {p q : Nat} {b3 b4 : Bool} (h3 : b3 = (z2B o1 o2 && z1B v2)) (h4 : b4 = (z2B l1 l2 && z1B v3 && z0B q)) :
    emB 1 (hvB t1 t2 v1 p) (hpB o1 o2 v2 l1 l2 v3 q) = (b3 && b4 && z2B t1 t2 && z1B v1 && z0B p) := by
  subst h3 h4
  unfold hvB hpB emB
  generalize z2B o1 o2 = x1
  generalize z1B v2 = x2
  generalize z2B l1 l2 = x3
  generalize z1B v3 = x4
  generalize z0B q = x5
  generalize z2B t1 t2 = x6
  generalize z1B v1 = x7
  generalize z0B p = x8
  cases x1 <;> cases x2 <;> cases x3 <;> cases x4 <;> cases x5 <;> cases x6 <;> cases x7 <;> cases x8 <;> rfl
theorem em_2 {k1 t1 t2 v1 o1 o2 v2 l1 l2 v3 : Int} {p q : Nat} {b3 b4 : Bool} (e1 : k1 ≠ 1) (e3 : k1 ≠ 3) (h3 : b3 = (z2B o1 o2 && z1B v2)) (h4 : b4 = (z2B l1 l2 && z1B v3 && z0B q)) :
    emB k1 (hvB t1 t2 v1 p) (hpB o1 o2 v2 l1 l2 v3 q) = (b3 && b4) := by
  subst h3 h4
  unfold hpB emB
  rw [if_neg e1, if_neg e3]
  generalize z2B o1 o2 = x1
  generalize z1B v2 = x2
  generalize z2B l1 l2 = x3
  generalize z1B v3 = x4
  generalize z0B q = x5
  cases x1 <;> cases x2 <;> cases x3 <;> cases x4 <;> cases x5 <;> rfl

set_option maxRecDepth 100000 in
set_option maxHeartbeats 4000000 in
theorem specEmpty_is (k1 k2 k3 k4 k5 t1 t2 v1 o1 o2 v2 : Int) (P : Option Addr) (p pc : Nat) (Q : Option Addr) (q qc : Nat) (l1 l2 v3 : Int) (w : World) :
    Calls Tryz.prog 198 #[.agg #[.int .i64 k1, .int .i64 k2, .int .i64 k3, .int .i64 k4, .int .i64 k5, .int .i64 t1, .int .i64 t2, .int .i64 v1, .int .i64 o1, .int .i64 o2, .int .i64 v2, .slice P p pc, .slice Q q qc, .int .i64 l1, .int .i64 l2, .int .i64 v3]] w fun e w' => e = .returned (.bool (emB k1 (hvB t1 t2 v1 p) (hpB o1 o2 v2 l1 l2 v3 q))) ∧ Below w.heap.size w w' := by
  have E0 := bel_alloc w (.cells #[.int .i64 k1, .int .i64 k2, .int .i64 k3, .int .i64 k4, .int .i64 k5, .int .i64 t1, .int .i64 t2, .int .i64 v1, .int .i64 o1, .int .i64 o2, .int .i64 v2, .slice P p pc, .slice Q q qc, .int .i64 l1, .int .i64 l2, .int .i64 v3] 85)
  have D := Box.new w 85 #[.int .i64 k1, .int .i64 k2, .int .i64 k3, .int .i64 k4, .int .i64 k5, .int .i64 t1, .int .i64 t2, .int .i64 v1, .int .i64 o1, .int .i64 o2, .int .i64 v2, .slice P p pc, .slice Q q qc, .int .i64 l1, .int .i64 l2, .int .i64 v3]
  go_enter Tryz.func198, Tryz.ntmps198
  go_upto_region 1 with fail
  generalize (w.alloc _ : World) = w0 at E0 D ⊢
  go_cut [3] (fun v wr => ∃ b, v = .bool b ∧ Hid (b = (z2B o1 o2 && z1B v2)) ∧ Below w.heap.size w wr ∧ Box wr w.heap.size 85 #[.int .i64 k1, .int .i64 k2, .int .i64 k3, .int .i64 k4, .int .i64 k5, .int .i64 t1, .int .i64 t2, .int .i64 v1, .int .i64 o1, .int .i64 o2, .int .i64 v2, .slice P p pc, .slice Q q qc, .int .i64 l1, .int .i64 l2, .int .i64 v3])
  case first =>
    obtain ⟨a0, a1, a2, a3, a4, a5, a6, a7, a8, a9, a10, a11, a12, a13, a14, a15⟩ := sixteen D
    rcases h1 : z2B o1 o2 with _ | _
    · have H1 := Lib.hid h1
      clear h1
      go_wp2_with fail
      refine (zeroB_is H1.out w0).mono ?_
      rintro e w1 ⟨rfl, hb⟩
      have D1 := D.later hb D.lt
      have E1 := bel_trans E0 hb
      clear a0 a1 a2 a3 a4 a5 a6 a7 a8 a9 a10 a11 a12 a13 a14 a15 hb D E0
      go_wp2_with fail
      go_meet
      exact ⟨false, rfl, Lib.hid (by rw [H1.out]; rfl), E1, D1⟩
    · have H1 := Lib.hid h1
      clear h1
      go_wp2_with fail
      refine (zeroB_is H1.out w0).mono ?_
      rintro e w1 ⟨rfl, hb⟩
      have D1 := D.later hb D.lt
      have E1 := bel_trans E0 hb
      clear a0 a1 a2 a3 a4 a5 a6 a7 a8 a9 a10 a11 a12 a13 a14 a15 hb D E0
      obtain ⟨a0, a1, a2, a3, a4, a5, a6, a7, a8, a9, a10, a11, a12, a13, a14, a15⟩ := sixteen D1
      rcases z1_cases v2 with ⟨rfl, hy⟩ | ⟨hy, h1, h2⟩
      all_goals
        have HY := Lib.hid hy
        clear hy
        go_wp2_with fail
        go_meet
        exact ⟨_, rfl, Lib.hid (by rw [H1.out, HY.out]; rfl), E1, D1⟩
  case rest =>
  obtain ⟨b3, rfl, hb3, E1, D1⟩ := hcut
  obtain ⟨w1, rfl⟩ : ∃ w1, w1 = wc := ⟨_, rfl⟩
  clear D E0
  go_upto_region 2 with fail
  go_cut [4] (fun v wr => ∃ b, v = .bool b ∧ Hid (b = (z2B l1 l2 && z1B v3 && z0B q)) ∧ Below w.heap.size w wr ∧ Box wr w.heap.size 85 #[.int .i64 k1, .int .i64 k2, .int .i64 k3, .int .i64 k4, .int .i64 k5, .int .i64 t1, .int .i64 t2, .int .i64 v1, .int .i64 o1, .int .i64 o2, .int .i64 v2, .slice P p pc, .slice Q q qc, .int .i64 l1, .int .i64 l2, .int .i64 v3])
  case first =>
    obtain ⟨a0, a1, a2, a3, a4, a5, a6, a7, a8, a9, a10, a11, a12, a13, a14, a15⟩ := sixteen D1
    rcases h1 : z2B l1 l2 with _ | _
    · have H1 := Lib.hid h1
      clear h1
      go_wp2_with fail
      refine (zeroB_is H1.out w1).mono ?_
      rintro e w2 ⟨rfl, hb⟩
      have D2 := D1.later hb D1.lt
      have E2 := bel_trans E1 hb
      clear a0 a1 a2 a3 a4 a5 a6 a7 a8 a9 a10 a11 a12 a13 a14 a15 hb D1 E1
      go_wp2_with fail
      go_meet
      exact ⟨false, rfl, Lib.hid (by rw [H1.out]; rfl), E2, D2⟩
    · have H1 := Lib.hid h1
      clear h1
      go_wp2_with fail
      refine (zeroB_is H1.out w1).mono ?_
      rintro e w2 ⟨rfl, hb⟩
      have D2 := D1.later hb D1.lt
      have E2 := bel_trans E1 hb
      clear a0 a1 a2 a3 a4 a5 a6 a7 a8 a9 a10 a11 a12 a13 a14 a15 hb D1 E1
      obtain ⟨a0, a1, a2, a3, a4, a5, a6, a7, a8, a9, a10, a11, a12, a13, a14, a15⟩ := sixteen D2
      rcases z1_cases v3 with ⟨rfl, hy⟩ | ⟨hy, h1, h2⟩
      · have HY := Lib.hid hy
        clear hy
        by_cases hq : q = 0
        · subst hq
          go_wp2_with fail
          go_meet
          exact ⟨_, rfl, Lib.hid (by rw [H1.out, HY.out]; rfl), E2, D2⟩
        · have HQ := Lib.hid (show z0B q = false by simp [z0B, hq])
          have hq1 : ((q : Int) == 0) = false := by simpa using hq
          go_wp2_with fail
          go_meet
          exact ⟨_, rfl, Lib.hid (by rw [H1.out, HY.out, HQ.out]; rfl), E2, D2⟩
      · have HY := Lib.hid hy
        clear hy
        go_wp2_with fail
        go_meet
        exact ⟨_, rfl, Lib.hid (by rw [H1.out, HY.out]; rfl), E2, D2⟩
  case rest =>
  obtain ⟨b4, rfl, hb4, E2, D2⟩ := hcut
  obtain ⟨w2, rfl⟩ : ∃ w2, w2 = wc := ⟨_, rfl⟩
  clear D1 E1
  obtain ⟨a0, a1, a2, a3, a4, a5, a6, a7, a8, a9, a10, a11, a12, a13, a14, a15⟩ := sixteen D2
  by_cases e1 : k1 = 1
  · subst e1
    have HE := Lib.hid (em_1 (t1 := t1) (t2 := t2) (v1 := v1) (p := p) hb3.out hb4.out)
    clear hb3 hb4
    rcases b3 with _ | _
    · go_wp2_with fail
      go_ret
      exact ⟨by rw [HE.out]; rfl, E2⟩
    rcases b4 with _ | _
    · go_wp2_with fail
      go_ret
      exact ⟨by rw [HE.out]; rfl, E2⟩
    rcases h1 : z2B t1 t2 with _ | _
    · have H1 := Lib.hid h1
      clear h1
      go_wp2_with fail
      refine (zeroB_is H1.out w2).mono ?_
      rintro e w3 ⟨rfl, hb⟩
      have E3 := bel_trans E2 hb
      clear a0 a1 a2 a3 a4 a5 a6 a7 a8 a9 a10 a11 a12 a13 a14 a15 hb D2 E2
      go_wp2_with fail
      go_ret
      exact ⟨by rw [HE.out, H1.out]; rfl, E3⟩
    · have H1 := Lib.hid h1
      clear h1
      go_wp2_with fail
      refine (zeroB_is H1.out w2).mono ?_
      rintro e w3 ⟨rfl, hb⟩
      have E3 := bel_trans E2 hb
      have D3 := D2.later hb D2.lt
      clear a0 a1 a2 a3 a4 a5 a6 a7 a8 a9 a10 a11 a12 a13 a14 a15 hb D2 E2
      obtain ⟨a0, a1, a2, a3, a4, a5, a6, a7, a8, a9, a10, a11, a12, a13, a14, a15⟩ := sixteen D3
      rcases z1_cases v1 with ⟨rfl, hy⟩ | ⟨hy, h1, h2⟩
      · have HY := Lib.hid hy
        clear hy
        by_cases hp : p = 0
        · subst hp
          go_wp2_with fail
          go_ret
          exact ⟨by rw [HE.out, H1.out, HY.out]; rfl, E3⟩
        · have HP := Lib.hid (show z0B p = false by simp [z0B, hp])
          have hp1 : ((p : Int) == 0) = false := by simpa using hp
          go_wp2_with fail
          go_ret
          exact ⟨by rw [HE.out, H1.out, HY.out, HP.out]; rfl, E3⟩
      · have HY := Lib.hid hy
        clear hy
        go_wp2_with fail
        go_ret
        exact ⟨by rw [HE.out, H1.out, HY.out]; rfl, E3⟩
  by_cases e3 : k1 = 3
  · subst e3
    go_wp2_with fail
    go_ret
    exact ⟨rfl, E2⟩
  have f1 : (k1 == 1) = false := by simpa using e1
  have f3 : (k1 == 3) = false := by simpa using e3
  have HE := Lib.hid (em_2 (t1 := t1) (t2 := t2) (v1 := v1) (p := p) e1 e3 hb3.out hb4.out)
  clear hb3 hb4 e1 e3
  rcases b3 with _ | _
  · go_wp2_with fail
    go_ret
    exact ⟨by rw [HE.out]; rfl, E2⟩
  · rcases b4 with _ | _
    all_goals
      go_wp2_with fail
      go_ret
      exact ⟨by rw [HE.out]; rfl, E2⟩
theorem specEmptyB_is {k1 t1 t2 v1 o1 o2 v2 l1 l2 v3 : Int} {p q : Nat} {b : Bool} (h : emB k1 (hvB t1 t2 v1 p) (hpB o1 o2 v2 l1 l2 v3 q) = b) (k2 k3 k4 k5 : Int) (P : Option Addr) (pc : Nat) (Q : Option Addr) (qc : Nat) (w : World) :
    Calls Tryz.prog 198 #[.agg #[.int .i64 k1, .int .i64 k2, .int .i64 k3, .int .i64 k4, .int .i64 k5, .int .i64 t1, .int .i64 t2, .int .i64 v1, .int .i64 o1, .int .i64 o2, .int .i64 v2, .slice P p pc, .slice Q q qc, .int .i64 l1, .int .i64 l2, .int .i64 v3]] w fun e w' => e = .returned (.bool b) ∧ Below w.heap.size w w' := h ▸ specEmpty_is k1 k2 k3 k4 k5 t1 t2 v1 o1 o2 v2 P p pc Q q qc l1 l2 v3 w

end Go.Proofs.YtjdepjpjjgkmbaaGreat
