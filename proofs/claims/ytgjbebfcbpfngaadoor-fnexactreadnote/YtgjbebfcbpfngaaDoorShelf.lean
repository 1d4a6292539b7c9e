/- Whether a group has such a shelf, a stamp that is zero, the claim to be ready: contracts of the program's and the model's functions of it. -/
import Derived.Test.YtgjbebfcbpfngaaDoorStampBase
import Derived.Test.YtgjbebfcbpfngaaDoorGroupMore
import Derived.Deep.CutBlock
namespace Go.Proofs.YtgjbebfcbpfngaaDoor
open Go.RowKit

theorem groupB_is {s l c sh : Int} {zs : List Int} {b : Bool} (h : okB s l c sh zs = b) (A : Option Addr) (n cap : Nat) (w : World) (hm : n ≤ maxLen) (hr : Row w w.heap.size A n zs) :
    Calls Tryd.prog 69 #[.agg #[.int .i64 s, .int .i64 l, .int .i64 c, .int .i64 sh, .slice A n cap]] w fun e w' => e = .returned (.bool b) ∧ Below w.heap.size w w' := h ▸ groupOk_any s l c sh A n cap zs w hm hr
theorem specGroupB_is {s l c sh : Int} {zs : List Int} {b : Bool} (h : okB s l c sh zs = b) (A : Option Addr) (n cap : Nat) (w : World) (hm : n ≤ maxLen) (hr : Row w w.heap.size A n zs) :
    Calls Tryd.prog 31 #[.agg #[.int .i64 s, .int .i64 l, .int .i64 c, .int .i64 sh, .slice A n cap]] w fun e w' => e = .returned (.bool b) ∧ Below w.heap.size w w' := h ▸ specGroup_any s l c sh A n cap zs w hm hr

/-- Is there such a shelf? -/
def shfB (s l c sh : Int) (zs : List Int) (x : Int) : Bool := okB s l c sh zs && inB x 0 (sh - 1)
theorem okB_sh {s l c sh : Int} {zs : List Int} (h : okB s l c sh zs = true) : 1 ≤ sh ∧ sh ≤ 4 := by
  simp only [okB, Bool.and_eq_true] at h
  exact inB_true.1 h.1.1.1.2
/-- Nothing is written yet. -/
def nilB (ct cq v : Int) : Bool := decide (ct = 0 ∧ cq = 0) && decide (v = 0)
set_option maxHeartbeats 1000000 in
theorem isShelf_is (s l c sh : Int) (A : Option Addr) (n cap : Nat) (zs : List Int) (x : Int) (w : World) (hm : n ≤ maxLen) (hr : Row w w.heap.size A n zs) :
    Calls Tryd.prog 39 #[.agg #[.int .i64 s, .int .i64 l, .int .i64 c, .int .i64 sh, .slice A n cap], .int .i64 x] w fun e w' => e = .returned (.bool (shfB s l c sh zs x)) ∧ Below w.heap.size w w' := by
  have E0 := bel_alloc w (.cells #[.int .i64 s, .int .i64 l, .int .i64 c, .int .i64 sh, .slice A n cap] 26)
  have DG := Box.new w 26 #[.int .i64 s, .int .i64 l, .int .i64 c, .int .i64 sh, .slice A n cap]
  have HR := Lib.hid ((hr.below E0 (Nat.le_refl _)).more E0.size)
  have HM := Lib.hid hm
  clear hr hm
  obtain ⟨d0, d1, d2, d3, d4⟩ := DG.five
  go_enter Tryd.func39, Tryd.ntmps39
  go_wp2_with fail
  generalize (w.alloc _ : World) = w1 at E0 DG HR d0 d1 d2 d3 d4 ⊢
  rcases hok : okB s l c sh zs with _ | _
  · have hs := Lib.hid (show shfB s l c sh zs x = false by simp [shfB, hok])
    have HO := Lib.hid hok
    clear hok
    refine (groupB_is HO.out A n cap w1 HM.out HR.out).mono ?_
    rintro e w2 ⟨rfl, hb2⟩
    have E2 := bel_trans E0 hb2
    go_wp2
    go_ret
    exact ⟨by rw [hs.out]; rfl, E2⟩
  · have hs := Lib.hid (show shfB s l c sh zs x = inB x 0 (sh - 1) by simp [shfB, hok])
    have hsh := okB_sh hok
    have HO := Lib.hid hok
    clear hok
    refine (groupB_is HO.out A n cap w1 HM.out HR.out).mono ?_
    rintro e w2 ⟨rfl, hb2⟩
    have E2 := bel_trans E0 hb2
    have DG2 := DG.later hb2 DG.lt
    clear d0 d1 d2 d3 d4 DG hb2
    obtain ⟨d0, d1, d2, d3, d4⟩ := DG2.five
    go_wp2_with (go_at_call 38; refine (within_any _ _ _ _).mono ?_; rintro e w' ⟨rfl, rfl⟩)
    go_ret
    exact ⟨by rw [hs.out]; rfl, E2⟩
theorem isShelfB_is {s l c sh : Int} {zs : List Int} {x : Int} {b : Bool} (h : shfB s l c sh zs x = b) (A : Option Addr) (n cap : Nat) (w : World) (hm : n ≤ maxLen) (hr : Row w w.heap.size A n zs) :
    Calls Tryd.prog 39 #[.agg #[.int .i64 s, .int .i64 l, .int .i64 c, .int .i64 sh, .slice A n cap], .int .i64 x] w fun e w' => e = .returned (.bool b) ∧ Below w.heap.size w w' := h ▸ isShelf_is s l c sh A n cap zs x w hm hr

theorem nil_cases (ct cq v : Int) : (ct = 0 ∧ cq = 0 ∧ v = 0 ∧ nilB ct cq v = true) ∨ (nilB ct cq v = false ∧ ((ct == 0) = false ∨ ((ct == 0) = true ∧ (cq == 0) = false) ∨ (ct = 0 ∧ cq = 0 ∧ (v == 0) = false))) := by
  unfold nilB
  by_cases h1 : ct = 0
  · by_cases h2 : cq = 0
    · by_cases h3 : v = 0
      · exact .inl ⟨h1, h2, h3, by simp [h1, h2, h3]⟩
      · exact .inr ⟨by simp [h3], .inr (.inr ⟨h1, h2, by simpa using h3⟩)⟩
    · exact .inr ⟨by simp [h2], .inr (.inl ⟨by simpa using h1, by simpa using h2⟩)⟩
  · exact .inr ⟨by simp [h1], .inl (by simpa using h1)⟩

theorem l4Zero_yes (w : World) : Calls Tryd.prog 68 #[.agg #[.int .i64 0, .int .i64 0]] w fun e w' => e = .returned (.bool true) ∧ Below w.heap.size w w' := by
  have hb := bel_alloc w (.cells #[.int .i64 0, .int .i64 0] 28)
  obtain ⟨d0, d1⟩ := (Box.new w 28 #[.int .i64 0, .int .i64 0]).two
  go_enter Tryd.func68, Tryd.ntmps68
  go_wp2
  go_ret
  exact ⟨rfl, hb⟩
theorem l4Zero_no (ct cq : Int) (h : (ct == 0) = false ∨ ((ct == 0) = true ∧ (cq == 0) = false)) (w : World) : Calls Tryd.prog 68 #[.agg #[.int .i64 ct, .int .i64 cq]] w fun e w' => e = .returned (.bool false) ∧ Below w.heap.size w w' := by
  have hb := bel_alloc w (.cells #[.int .i64 ct, .int .i64 cq] 28)
  obtain ⟨d0, d1⟩ := (Box.new w 28 #[.int .i64 ct, .int .i64 cq]).two
  rcases h with h1 | ⟨h1, h2⟩
  · go_enter Tryd.func68, Tryd.ntmps68
    go_wp2
    go_ret
    exact ⟨rfl, hb⟩
  · go_enter Tryd.func68, Tryd.ntmps68
    go_wp2
    go_ret
    exact ⟨rfl, hb⟩
theorem l4Ready_is (x ct cq v : Int) (w : World) : Calls Tryd.prog 83 #[.int .i64 x, .agg #[.int .i64 ct, .int .i64 cq], .int .i64 v] w fun e w' => e = .returned (.agg #[.int .i64 1, .int .i64 x, .int .i64 ct, .int .i64 cq, .int .i64 v]) ∧ Below w.heap.size w w' := by
  have E0 := bel_trans (bel_alloc w (.cells #[.int .i64 ct, .int .i64 cq] 28)) (bel_alloc _ (.cells #[.int .i64 0, .int .i64 0, .int .i64 0, .int .i64 0, .int .i64 0] 106))
  obtain ⟨d0, d1⟩ := ((Box.new w 28 #[.int .i64 ct, .int .i64 cq]).alloc (.cells #[.int .i64 0, .int .i64 0, .int .i64 0, .int .i64 0, .int .i64 0] 106)).two
  have D := Box.new (w.alloc (.cells #[.int .i64 ct, .int .i64 cq] 28)) 106 #[.int .i64 0, .int .i64 0, .int .i64 0, .int .i64 0, .int .i64 0]
  simp only [World.size_alloc] at D


  go_enter Tryd.func83, Tryd.ntmps83
  go_wp2
  exact bodyPost_ret (v := .agg #[.int .i64 1, .int .i64 x, .int .i64 ct, .int .i64 cq, .int .i64 v]) (by simp [results, Tryd.results83, go_sem]) rfl
    ⟨rfl, by first | exact bel_trans (bel_alloc _ _) (bel_alloc _ _) | exact ((((E0.setCell (by simp) _).setCell (by simp) _).setCell (by simp) _).setCell (by simp) _).setCell (by simp) _⟩

end Go.Proofs.YtgjbebfcbpfngaaDoor
