/- What the functions of impl/l01_group.go answer at every group whose keys can be read: contracts of each of them. -/
import Derived.Test.YtjdepjpjjgkmbaaGreatChecked
import Derived.Test.YtjdepjpjjgkmbaaGreatBase
import Derived.WalkKit
import Derived.OwnWalk
import Derived.Outline
import Derived.Deep.RegionHeld3
import Derived.Deep.DeepCutAuto
import Derived.Laws.EntriesVeiled
import Derived.IntWalk
namespace Go.Proofs.YtjdepjpjjgkmbaaGreat
open Go.RowKit

theorem servers_any (s l c sh : Int) (A : Option Addr) (n cap : Nat) (w : World) :
    Calls Tryz.prog 212 #[.agg #[.int .i64 s, .int .i64 l, .int .i64 c, .int .i64 sh, .slice A n cap]] w fun e w' => e = .returned (.bool (inB s 1 10)) ∧ Below w.heap.size w w' := by
  go_enter Tryz.func212, Tryz.ntmps212
  go_wp2_with (go_at_call 143; refine (within_any _ _ _ _).mono ?_; rintro e w' ⟨rfl, rfl⟩)
  go_ret
  exact ⟨rfl, (Below.refl _ _).alloc (Nat.le_refl _) _⟩

theorem clients_any (s l c sh : Int) (A : Option Addr) (n cap : Nat) (w : World) :
    Calls Tryz.prog 213 #[.agg #[.int .i64 s, .int .i64 l, .int .i64 c, .int .i64 sh, .slice A n cap]] w fun e w' => e = .returned (.bool (inB c 1 6)) ∧ Below w.heap.size w w' := by
  go_enter Tryz.func213, Tryz.ntmps213
  go_wp2_with (go_at_call 143; refine (within_any _ _ _ _).mono ?_; rintro e w' ⟨rfl, rfl⟩)
  go_ret
  exact ⟨rfl, (Below.refl _ _).alloc (Nat.le_refl _) _⟩

theorem shelves_any (s l c sh : Int) (A : Option Addr) (n cap : Nat) (w : World) :
    Calls Tryz.prog 214 #[.agg #[.int .i64 s, .int .i64 l, .int .i64 c, .int .i64 sh, .slice A n cap]] w fun e w' => e = .returned (.bool (inB sh 1 4)) ∧ Below w.heap.size w w' := by
  go_enter Tryz.func214, Tryz.ntmps214
  go_wp2_with (go_at_call 143; refine (within_any _ _ _ _).mono ?_; rintro e w' ⟨rfl, rfl⟩)
  go_ret
  exact ⟨rfl, (Below.refl _ _).alloc (Nat.le_refl _) _⟩

theorem liars_any (s l c sh : Int) (A : Option Addr) (n cap : Nat) (w : World) (h1 : 1 ≤ s) (h2 : s ≤ 10) :
    Calls Tryz.prog 215 #[.agg #[.int .i64 s, .int .i64 l, .int .i64 c, .int .i64 sh, .slice A n cap]] w fun e w' => e = .returned (.bool (inB l 0 ((s - 1) / 3))) ∧ Below w.heap.size w w' := by
  go_enter Tryz.func215, Tryz.ntmps215
  go_wp2_with (go_at_call 143; refine (within_any _ _ _ _).mono ?_; rintro e w' ⟨rfl, rfl⟩)
  go_ret
  exact ⟨rfl, (Below.refl _ _).alloc (Nat.le_refl _) _⟩

theorem nodes_any (s l c sh : Int) (A : Option Addr) (n cap : Nat) (w : World) (h1 : 1 ≤ s) (h2 : s ≤ 10) (h3 : 1 ≤ c) (h4 : c ≤ 6) :
    Calls Tryz.prog 235 #[.agg #[.int .i64 s, .int .i64 l, .int .i64 c, .int .i64 sh, .slice A n cap]] w fun e w' => e = .returned (.int .i64 (s + c)) ∧ Below w.heap.size w w' := by
  go_enter Tryz.func235, Tryz.ntmps235
  go_wp2
  go_ret
  exact ⟨rfl, (Below.refl _ _).alloc (Nat.le_refl _) _⟩

theorem keys_no (s l c sh : Int) (A : Option Addr) (n cap : Nat) (w : World) (h1 : 1 ≤ s) (h2 : s ≤ 10) (h3 : 1 ≤ c) (h4 : c ≤ 6) (hn : (n : Int) ≠ s + c) (_hm : n ≤ maxLen) :
    Calls Tryz.prog 216 #[.agg #[.int .i64 s, .int .i64 l, .int .i64 c, .int .i64 sh, .slice A n cap]] w fun e w' => e = .returned (.bool false) ∧ Below w.heap.size w w' := by
  have hne : ((n : Int) != s + c) = true := by rw [bne_iff_ne]; exact hn
  unfold maxLen at _hm
  go_enter Tryz.func216, Tryz.ntmps216
  go_wp2_with fail
  go_region_held3 (fun w' => w'.cell? ⟨w.heap.size, 0, none⟩ = some (.int .i64 s) ∧ w'.cell? ⟨w.heap.size, 1, none⟩ = some (.int .i64 l) ∧ w'.cell? ⟨w.heap.size, 2, none⟩ = some (.int .i64 c) ∧ w'.cell? ⟨w.heap.size, 3, none⟩ = some (.int .i64 sh) ∧ w'.cell? ⟨w.heap.size, 4, none⟩ = some (.slice A n cap)) (go_keep)
    (first | (go_at_call 235; refine (nodes_any s l c sh A n cap _ h1 h2 h3 h4).mono ?_; rintro e w' ⟨rfl, hb⟩; obtain ⟨hc, hf⟩ := bcell hb))
  clear hc hf
  go_wp2
  go_ret
  exact ⟨rfl, bel_trans (bel_alloc _ _) (bel_drew' hb)⟩

set_option maxHeartbeats 400000 in
theorem keys_yes (s l c sh : Int) (A : Option Addr) (n cap : Nat) (zs : List Int) (w : World) (h1 : 1 ≤ s) (h2 : s ≤ 10) (h3 : 1 ≤ c) (h4 : c ≤ 6) (hn : (n : Int) = s + c) (hr : Row w w.heap.size A n zs) :
    Calls Tryz.prog 216 #[.agg #[.int .i64 s, .int .i64 l, .int .i64 c, .int .i64 sh, .slice A n cap]] w fun e w' => e = .returned (.bool (keysB zs)) ∧ Below w.heap.size w w' := by
  have hne : ((n : Int) != s + c) = false := by simp [hn]
  have hn0 : 0 < n := by omega
  have hn16 : n ≤ 16 := by omega
  obtain ⟨hzl, hr⟩ := hr
  obtain ⟨b, o, rfl, hbB, hcell⟩ := hr hn0
  have HN := Lib.hid hn
  clear hn hr
  have HZ := Lib.hid hzl
  clear hzl
  have HC := Lib.hid hcell
  clear hcell
  go_enter Tryz.func216, Tryz.ntmps216
  go_wp2_with fail
  go_region_held3 (fun w' => w'.cell? ⟨w.heap.size, 0, none⟩ = some (.int .i64 s) ∧ w'.cell? ⟨w.heap.size, 1, none⟩ = some (.int .i64 l) ∧ w'.cell? ⟨w.heap.size, 2, none⟩ = some (.int .i64 c) ∧ w'.cell? ⟨w.heap.size, 3, none⟩ = some (.int .i64 sh) ∧ w'.cell? ⟨w.heap.size, 4, none⟩ = some (.slice (some ⟨b, o, none⟩) n cap)) (go_keep)
    (first | (go_at_call 235; refine (nodes_any s l c sh _ n cap _ h1 h2 h3 h4).mono ?_; rintro e w' ⟨rfl, hb⟩; obtain ⟨hc, hf⟩ := bcell hb))
  clear hc hf
  have hbw : Below w.heap.size w w' := bel_trans (bel_alloc _ _) (bel_drew' hb)
  have HC' : Hid (∀ i, i < n → w'.cell? ⟨b, o + i, none⟩ = some (.int .i64 (nth zs i))) := fun i hi => (hbw.cell (p := ⟨b, o + i, none⟩) hbB).trans (HC.out i hi)
  clear hb
  go_wp2
  go_loop [14] (fun i => ∃ k : Nat, k ≤ n ∧ i = .int .i64 k ∧ Hid (∀ j, j < k → inB (nth zs j) 1 1000000 = true)) (fun i => n - (intOf i).toNat)
  case atStart => exact ⟨0, Nat.zero_le _, rfl, fun j hj => absurd hj (by omega)⟩
  case round =>
    obtain ⟨k, hk, rfl, hall⟩ := hrel
    by_cases hlt : k < n
    · have g := HC'.out k hlt
      rcases hb : inB (nth zs k) 1 1000000 with _ | _
      · have HF : Hid (keysB zs = false) := keysB_false (by rw [HZ.out]; exact hlt) hb
        go_wp2_with (go_at_call 143; refine (within_any _ _ _ _).mono ?_; rintro e w' ⟨rfl, rfl⟩)
        go_ret
        exact ⟨by rw [HF.out]; rfl, hbw⟩
      · have HS : Hid (∀ j, j < k + 1 → inB (nth zs j) 1 1000000 = true) := fun j hj => by
          rcases Nat.lt_or_ge j k with h | h
          · exact hall.out j h
          · have e : j = k := by omega
            rw [e]; exact hb
        go_wp2_with (go_at_call 143; refine (within_any _ _ _ _).mono ?_; rintro e w' ⟨rfl, rfl⟩)
        go_round
        case rel => exact ⟨k + 1, by omega, by go_num, HS⟩
        case measure => simp [intOf]; omega
    · have HT : Hid (keysB zs = true) := keysB_true fun j hj => hall.out j (by have := HZ.out; omega)
      go_wp2
      go_ret
      exact ⟨by rw [HT.out]; rfl, hbw⟩

/-- What the five rules of a group say. -/
def ruleB (s l c sh : Int) (zs : List Int) : Nat → Bool
  | 0 => inB s 1 10
  | 1 => inB c 1 6
  | 2 => inB sh 1 4
  | 3 => inB l 0 ((s - 1) / 3)
  | _ => decide ((zs.length : Int) = s + c) && keysB zs

theorem okB_all {s l c sh : Int} {zs : List Int} (h : ∀ j, j < 5 → ruleB s l c sh zs j = true) : okB s l c sh zs = true := by
  have h0 := h 0 (by omega)
  have h1 := h 1 (by omega)
  have h2 := h 2 (by omega)
  have h3 := h 3 (by omega)
  have h4 := h 4 (by omega)
  simp only [ruleB] at h0 h1 h2 h3 h4
  simp only [okB, h0, h1, h2, h3, Bool.true_and]; exact h4
theorem okB_none {s l c sh : Int} {zs : List Int} {j : Nat} (h : j < 5) (hj : ruleB s l c sh zs j = false) : okB s l c sh zs = false := by
  have : j = 0 ∨ j = 1 ∨ j = 2 ∨ j = 3 ∨ j = 4 := by omega
  rcases this with rfl | rfl | rfl | rfl | rfl <;> simp only [ruleB] at hj <;> simp only [okB, Bool.and_assoc, hj, Bool.false_and, Bool.and_false]

/-- The fifth rule, whatever the keys. -/
theorem keys_any (s l c sh : Int) (A : Option Addr) (n cap : Nat) (zs : List Int) (w : World) (h1 : 1 ≤ s) (h2 : s ≤ 10) (h3 : 1 ≤ c) (h4 : c ≤ 6) (hm : n ≤ maxLen) (hr : Row w w.heap.size A n zs) :
    Calls Tryz.prog 216 #[.agg #[.int .i64 s, .int .i64 l, .int .i64 c, .int .i64 sh, .slice A n cap]] w fun e w' => e = .returned (.bool (ruleB s l c sh zs 4)) ∧ Below w.heap.size w w' := by
  by_cases hn : (n : Int) = s + c
  · have e : ruleB s l c sh zs 4 = keysB zs := by simp [ruleB, hr.1, hn]
    rw [e]
    exact keys_yes s l c sh A n cap zs w h1 h2 h3 h4 hn hr
  · have e : ruleB s l c sh zs 4 = false := by simp [ruleB, hr.1, hn]
    rw [e]
    exact keys_no s l c sh A n cap w h1 h2 h3 h4 hn hm

theorem all_succ {P : Nat → Bool} {k : Nat} (h : ∀ j, j < k → P j = true) (hk : P k = true) : ∀ j, j < k + 1 → P j = true := fun j hj => by
  rcases Nat.lt_or_ge j k with h1 | h1
  · exact h j h1
  · have e : j = k := by omega
    rw [e]; exact hk

set_option maxHeartbeats 1000000 in
theorem groupOk_any (s l c sh : Int) (A : Option Addr) (n cap : Nat) (zs : List Int) (w : World) (hm : n ≤ maxLen) (hr : Row w w.heap.size A n zs) :
    Calls Tryz.prog 175 #[(.agg #[.int .i64 s, .int .i64 l, .int .i64 c, .int .i64 sh, .slice A n cap])] w fun e w' => e = .returned (.bool (okB s l c sh zs)) ∧ Below w.heap.size w w' := by
  have HR := Lib.hid hr
  clear hr
  go_enter Tryz.func175, Tryz.ntmps175
  go_wp2_with fail
  go_loopw [19] (fun i wr => ∃ k : Nat, k ≤ 5 ∧ i = .int .i64 k ∧ Hid (∀ j, j < k → ruleB s l c sh zs j = true) ∧ Below w.heap.size w wr ∧ w.heap.size + 1 < wr.heap.size ∧
      wr.cell? ⟨w.heap.size + 1, 0, none⟩ = some (.func (Fn.func 212) #[(.agg #[.int .i64 s, .int .i64 l, .int .i64 c, .int .i64 sh, .slice A n cap])] #[]) ∧
      wr.cell? ⟨w.heap.size + 1, 1, none⟩ = some (.func (Fn.func 213) #[(.agg #[.int .i64 s, .int .i64 l, .int .i64 c, .int .i64 sh, .slice A n cap])] #[]) ∧
      wr.cell? ⟨w.heap.size + 1, 2, none⟩ = some (.func (Fn.func 214) #[(.agg #[.int .i64 s, .int .i64 l, .int .i64 c, .int .i64 sh, .slice A n cap])] #[]) ∧
      wr.cell? ⟨w.heap.size + 1, 3, none⟩ = some (.func (Fn.func 215) #[(.agg #[.int .i64 s, .int .i64 l, .int .i64 c, .int .i64 sh, .slice A n cap])] #[]) ∧
      wr.cell? ⟨w.heap.size + 1, 4, none⟩ = some (.func (Fn.func 216) #[(.agg #[.int .i64 s, .int .i64 l, .int .i64 c, .int .i64 sh, .slice A n cap])] #[]))
    (fun i _ => 5 - (intOf i).toNat)
  case atStart =>
    refine ⟨0, by omega, rfl, fun j hj => absurd hj (by omega), bel_trans (bel_alloc _ _) (bel_alloc _ _), by simp, ?_, ?_, ?_, ?_, ?_⟩ <;> simp
  case round =>
    obtain ⟨k, hk, rfl, hall, hb, hz, hc0, hc1, hc2, hc3, hc4⟩ := hrel
    by_cases hlt : k < 5
    · have hcase : k = 0 ∨ k = 1 ∨ k = 2 ∨ k = 3 ∨ k = 4 := by omega
      rcases hcase with rfl | rfl | rfl | rfl | rfl
      · rcases hv : inB s 1 10 with _ | _
        · have HF : Hid (okB s l c sh zs = false) := okB_none (j := 0) (by omega) hv
          go_wp2_with (go_at_call 212; refine (servers_any s l c sh A n cap _).mono ?_; rintro e w' ⟨rfl, hb'⟩)
          go_ret
          exact ⟨by rw [HF.out]; rfl, bel_trans hb hb'⟩
        · have HS : Hid (∀ j, j < 0 + 1 → ruleB s l c sh zs j = true) := all_succ hall.out hv
          go_wp2_with (go_at_call 212; refine (servers_any s l c sh A n cap _).mono ?_; rintro e w' ⟨rfl, hb'⟩)
          go_roundw
          case rel => exact ⟨1, by omega, by go_num, HS, bel_trans hb hb', Nat.lt_of_lt_of_le hz hb'.size, (hb'.cell (p := ⟨w.heap.size + 1, 0, none⟩) hz).trans hc0, (hb'.cell (p := ⟨w.heap.size + 1, 1, none⟩) hz).trans hc1, (hb'.cell (p := ⟨w.heap.size + 1, 2, none⟩) hz).trans hc2, (hb'.cell (p := ⟨w.heap.size + 1, 3, none⟩) hz).trans hc3, (hb'.cell (p := ⟨w.heap.size + 1, 4, none⟩) hz).trans hc4⟩
          case measure => simp [intOf]
      · rcases hv : inB c 1 6 with _ | _
        · have HF : Hid (okB s l c sh zs = false) := okB_none (j := 1) (by omega) hv
          go_wp2_with (go_at_call 213; refine (clients_any s l c sh A n cap _).mono ?_; rintro e w' ⟨rfl, hb'⟩)
          go_ret
          exact ⟨by rw [HF.out]; rfl, bel_trans hb hb'⟩
        · have HS : Hid (∀ j, j < 1 + 1 → ruleB s l c sh zs j = true) := all_succ hall.out hv
          go_wp2_with (go_at_call 213; refine (clients_any s l c sh A n cap _).mono ?_; rintro e w' ⟨rfl, hb'⟩)
          go_roundw
          case rel => exact ⟨2, by omega, by go_num, HS, bel_trans hb hb', Nat.lt_of_lt_of_le hz hb'.size, (hb'.cell (p := ⟨w.heap.size + 1, 0, none⟩) hz).trans hc0, (hb'.cell (p := ⟨w.heap.size + 1, 1, none⟩) hz).trans hc1, (hb'.cell (p := ⟨w.heap.size + 1, 2, none⟩) hz).trans hc2, (hb'.cell (p := ⟨w.heap.size + 1, 3, none⟩) hz).trans hc3, (hb'.cell (p := ⟨w.heap.size + 1, 4, none⟩) hz).trans hc4⟩
          case measure => simp [intOf]
      · rcases hv : inB sh 1 4 with _ | _
        · have HF : Hid (okB s l c sh zs = false) := okB_none (j := 2) (by omega) hv
          go_wp2_with (go_at_call 214; refine (shelves_any s l c sh A n cap _).mono ?_; rintro e w' ⟨rfl, hb'⟩)
          go_ret
          exact ⟨by rw [HF.out]; rfl, bel_trans hb hb'⟩
        · have HS : Hid (∀ j, j < 2 + 1 → ruleB s l c sh zs j = true) := all_succ hall.out hv
          go_wp2_with (go_at_call 214; refine (shelves_any s l c sh A n cap _).mono ?_; rintro e w' ⟨rfl, hb'⟩)
          go_roundw
          case rel => exact ⟨3, by omega, by go_num, HS, bel_trans hb hb', Nat.lt_of_lt_of_le hz hb'.size, (hb'.cell (p := ⟨w.heap.size + 1, 0, none⟩) hz).trans hc0, (hb'.cell (p := ⟨w.heap.size + 1, 1, none⟩) hz).trans hc1, (hb'.cell (p := ⟨w.heap.size + 1, 2, none⟩) hz).trans hc2, (hb'.cell (p := ⟨w.heap.size + 1, 3, none⟩) hz).trans hc3, (hb'.cell (p := ⟨w.heap.size + 1, 4, none⟩) hz).trans hc4⟩
          case measure => simp [intOf]
      · obtain ⟨hs1, hs2⟩ := inB_true.1 (show inB s 1 10 = true from hall.out 0 (by omega))
        rcases hv : inB l 0 ((s - 1) / 3) with _ | _
        · have HF : Hid (okB s l c sh zs = false) := okB_none (j := 3) (by omega) hv
          go_wp2_with (go_at_call 215; refine (liars_any s l c sh A n cap _ hs1 hs2).mono ?_; rintro e w' ⟨rfl, hb'⟩)
          go_ret
          exact ⟨by rw [HF.out]; rfl, bel_trans hb hb'⟩
        · have HS : Hid (∀ j, j < 3 + 1 → ruleB s l c sh zs j = true) := all_succ hall.out hv
          go_wp2_with (go_at_call 215; refine (liars_any s l c sh A n cap _ hs1 hs2).mono ?_; rintro e w' ⟨rfl, hb'⟩)
          go_roundw
          case rel => exact ⟨4, by omega, by go_num, HS, bel_trans hb hb', Nat.lt_of_lt_of_le hz hb'.size, (hb'.cell (p := ⟨w.heap.size + 1, 0, none⟩) hz).trans hc0, (hb'.cell (p := ⟨w.heap.size + 1, 1, none⟩) hz).trans hc1, (hb'.cell (p := ⟨w.heap.size + 1, 2, none⟩) hz).trans hc2, (hb'.cell (p := ⟨w.heap.size + 1, 3, none⟩) hz).trans hc3, (hb'.cell (p := ⟨w.heap.size + 1, 4, none⟩) hz).trans hc4⟩
          case measure => simp [intOf]
      · obtain ⟨hs1, hs2⟩ := inB_true.1 (show inB s 1 10 = true from hall.out 0 (by omega))
        obtain ⟨hq1, hq2⟩ := inB_true.1 (show inB c 1 6 = true from hall.out 1 (by omega))
        have HR2 := Lib.hid ((HR.out.below hb (Nat.le_refl _)).more hb.size)
        rcases hv : ruleB s l c sh zs 4 with _ | _
        · have HF : Hid (okB s l c sh zs = false) := okB_none (j := 4) (by omega) hv
          go_wp2_with (go_at_call 216; refine (keys_any s l c sh A n cap zs _ hs1 hs2 hq1 hq2 hm (HR2.out)).mono ?_; rintro e w' ⟨rfl, hb'⟩)
          go_ret
          exact ⟨by rw [HF.out]; rfl, bel_trans hb hb'⟩
        · have HS : Hid (∀ j, j < 4 + 1 → ruleB s l c sh zs j = true) := all_succ hall.out hv
          go_wp2_with (go_at_call 216; refine (keys_any s l c sh A n cap zs _ hs1 hs2 hq1 hq2 hm (HR2.out)).mono ?_; rintro e w' ⟨rfl, hb'⟩)
          go_roundw
          case rel => exact ⟨5, by omega, by go_num, HS, bel_trans hb hb', Nat.lt_of_lt_of_le hz hb'.size, (hb'.cell (p := ⟨w.heap.size + 1, 0, none⟩) hz).trans hc0, (hb'.cell (p := ⟨w.heap.size + 1, 1, none⟩) hz).trans hc1, (hb'.cell (p := ⟨w.heap.size + 1, 2, none⟩) hz).trans hc2, (hb'.cell (p := ⟨w.heap.size + 1, 3, none⟩) hz).trans hc3, (hb'.cell (p := ⟨w.heap.size + 1, 4, none⟩) hz).trans hc4⟩
          case measure => simp [intOf]
    · have hk5 : k = 5 := by omega
      subst hk5
      have HT : Hid (okB s l c sh zs = true) := okB_all hall.out
      go_wp2
      go_ret
      exact ⟨by rw [HT.out]; rfl, hb⟩

end Go.Proofs.YtjdepjpjjgkmbaaGreat
