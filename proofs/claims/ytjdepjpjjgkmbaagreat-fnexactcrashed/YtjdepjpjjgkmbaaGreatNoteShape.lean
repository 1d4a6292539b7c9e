/- Whether a group has such a shelf, a stamp that is zero, the claim to be ready: contracts of the program's and the model's functions of it. -/
import Derived.Test.YtjdepjpjjgkmbaaGreatStampBase
import Derived.Test.YtjdepjpjjgkmbaaGreatGroupMore
import Derived.Deep.CutBlock
import Derived.Laws.Rows
import Derived.Test.YtjdepjpjjgkmbaaGreatBase
import Derived.Laws.Tables
namespace Go.Proofs.YtjdepjpjjgkmbaaGreat
open Go.RowKit

theorem groupB_is {s l c sh : Int} {zs : List Int} {b : Bool} (h : okB s l c sh zs = b) (A : Option Addr) (n cap : Nat) (w : World) (hm : n ≤ maxLen) (hr : Row w w.heap.size A n zs) :
    Calls Tryz.prog 175 #[.agg #[.int .i64 s, .int .i64 l, .int .i64 c, .int .i64 sh, .slice A n cap]] w fun e w' => e = .returned (.bool b) ∧ Below w.heap.size w w' := h ▸ groupOk_any s l c sh A n cap zs w hm hr
theorem specGroupB_is {s l c sh : Int} {zs : List Int} {b : Bool} (h : okB s l c sh zs = b) (A : Option Addr) (n cap : Nat) (w : World) (hm : n ≤ maxLen) (hr : Row w w.heap.size A n zs) :
    Calls Tryz.prog 133 #[.agg #[.int .i64 s, .int .i64 l, .int .i64 c, .int .i64 sh, .slice A n cap]] w fun e w' => e = .returned (.bool b) ∧ Below w.heap.size w w' := h ▸ specGroup_any s l c sh A n cap zs w hm hr

/-- Is there such a shelf? -/
def shfB (s l c sh : Int) (zs : List Int) (x : Int) : Bool := okB s l c sh zs && inB x 0 (sh - 1)
theorem okB_sh {s l c sh : Int} {zs : List Int} (h : okB s l c sh zs = true) : 1 ≤ sh ∧ sh ≤ 4 := by
  simp only [okB, Bool.and_eq_true] at h
  exact inB_true.1 h.1.1.1.2
/-- Nothing is written yet. -/
def nilB (ct cq v : Int) : Bool := decide (ct = 0 ∧ cq = 0) && decide (v = 0)
set_option maxHeartbeats 1000000 in
theorem isShelf_is (s l c sh : Int) (A : Option Addr) (n cap : Nat) (zs : List Int) (x : Int) (w : World) (hm : n ≤ maxLen) (hr : Row w w.heap.size A n zs) :
    Calls Tryz.prog 144 #[.agg #[.int .i64 s, .int .i64 l, .int .i64 c, .int .i64 sh, .slice A n cap], .int .i64 x] w fun e w' => e = .returned (.bool (shfB s l c sh zs x)) ∧ Below w.heap.size w w' := by
  have E0 := bel_alloc w (.cells #[.int .i64 s, .int .i64 l, .int .i64 c, .int .i64 sh, .slice A n cap] 26)
  have DG := Box.new w 26 #[.int .i64 s, .int .i64 l, .int .i64 c, .int .i64 sh, .slice A n cap]
  have HR := Lib.hid ((hr.below E0 (Nat.le_refl _)).more E0.size)
  have HM := Lib.hid hm
  clear hr hm
  obtain ⟨d0, d1, d2, d3, d4⟩ := DG.five
  go_enter Tryz.func144, Tryz.ntmps144
  go_wp2_with fail
  generalize (w.alloc _ : World) = w1 at E0 DG HR d0 d1 d2 d3 d4 ⊢
  rcases hok : okB s l c sh zs with _ | _
  · have hs := Lib.hid (show shfB s l c sh zs x = false by simp [shfB, hok])
    have HO := Lib.hid hok
    clear hok
    refine (groupB_is HO.out A n cap w1 HM.out HR.out).mono ?_
    rintro e w2 ⟨rfl, hb2⟩
    have E2 := bel_trans E0 hb2
    go_wp2
    go_ret
    exact ⟨by rw [hs.out]; rfl, E2⟩
  · have hs := Lib.hid (show shfB s l c sh zs x = inB x 0 (sh - 1) by simp [shfB, hok])
    have hsh := okB_sh hok
    have HO := Lib.hid hok
    clear hok
    refine (groupB_is HO.out A n cap w1 HM.out HR.out).mono ?_
    rintro e w2 ⟨rfl, hb2⟩
    have E2 := bel_trans E0 hb2
    have DG2 := DG.later hb2 DG.lt
    clear d0 d1 d2 d3 d4 DG hb2
    obtain ⟨d0, d1, d2, d3, d4⟩ := DG2.five
    go_wp2_with (go_at_call 143; refine (within_any _ _ _ _).mono ?_; rintro e w' ⟨rfl, rfl⟩)
    go_ret
    exact ⟨by rw [hs.out]; rfl, E2⟩
theorem isShelfB_is {s l c sh : Int} {zs : List Int} {x : Int} {b : Bool} (h : shfB s l c sh zs x = b) (A : Option Addr) (n cap : Nat) (w : World) (hm : n ≤ maxLen) (hr : Row w w.heap.size A n zs) :
    Calls Tryz.prog 144 #[.agg #[.int .i64 s, .int .i64 l, .int .i64 c, .int .i64 sh, .slice A n cap], .int .i64 x] w fun e w' => e = .returned (.bool b) ∧ Below w.heap.size w w' := h ▸ isShelf_is s l c sh A n cap zs x w hm hr

theorem nil_cases (ct cq v : Int) : (ct = 0 ∧ cq = 0 ∧ v = 0 ∧ nilB ct cq v = true) ∨ (nilB ct cq v = false ∧ ((ct == 0) = false ∨ ((ct == 0) = true ∧ (cq == 0) = false) ∨ (ct = 0 ∧ cq = 0 ∧ (v == 0) = false))) := by
  unfold nilB
  by_cases h1 : ct = 0
  · by_cases h2 : cq = 0
    · by_cases h3 : v = 0
      · exact .inl ⟨h1, h2, h3, by simp [h1, h2, h3]⟩
      · exact .inr ⟨by simp [h3], .inr (.inr ⟨h1, h2, by simpa using h3⟩)⟩
    · exact .inr ⟨by simp [h2], .inr (.inl ⟨by simpa using h1, by simpa using h2⟩)⟩
  · exact .inr ⟨by simp [h1], .inl (by simpa using h1)⟩

theorem l4Zero_yes (w : World) : Calls Tryz.prog 161 #[.agg #[.int .i64 0, .int .i64 0]] w fun e w' => e = .returned (.bool true) ∧ Below w.heap.size w w' := by
  have hb := bel_alloc w (.cells #[.int .i64 0, .int .i64 0] 39)
  obtain ⟨d0, d1⟩ := (Box.new w 39 #[.int .i64 0, .int .i64 0]).two
  go_enter Tryz.func161, Tryz.ntmps161
  go_wp2
  go_ret
  exact ⟨rfl, hb⟩
theorem l4Zero_no (ct cq : Int) (h : (ct == 0) = false ∨ ((ct == 0) = true ∧ (cq == 0) = false)) (w : World) : Calls Tryz.prog 161 #[.agg #[.int .i64 ct, .int .i64 cq]] w fun e w' => e = .returned (.bool false) ∧ Below w.heap.size w w' := by
  have hb := bel_alloc w (.cells #[.int .i64 ct, .int .i64 cq] 39)
  obtain ⟨d0, d1⟩ := (Box.new w 39 #[.int .i64 ct, .int .i64 cq]).two
  rcases h with h1 | ⟨h1, h2⟩
  · go_enter Tryz.func161, Tryz.ntmps161
    go_wp2
    go_ret
    exact ⟨rfl, hb⟩
  · go_enter Tryz.func161, Tryz.ntmps161
    go_wp2
    go_ret
    exact ⟨rfl, hb⟩
theorem l4Ready_is (x ct cq v : Int) (w : World) : Calls Tryz.prog 137 #[.int .i64 x, .agg #[.int .i64 ct, .int .i64 cq], .int .i64 v] w fun e w' => e = .returned (.agg #[.int .i64 1, .int .i64 x, .int .i64 ct, .int .i64 cq, .int .i64 v]) ∧ Below w.heap.size w w' := by
  have E0 := bel_trans (bel_alloc w (.cells #[.int .i64 ct, .int .i64 cq] 39)) (bel_alloc _ (.cells #[.int .i64 0, .int .i64 0, .int .i64 0, .int .i64 0, .int .i64 0] 180))
  obtain ⟨d0, d1⟩ := ((Box.new w 39 #[.int .i64 ct, .int .i64 cq]).alloc (.cells #[.int .i64 0, .int .i64 0, .int .i64 0, .int .i64 0, .int .i64 0] 180)).two
  have D := Box.new (w.alloc (.cells #[.int .i64 ct, .int .i64 cq] 39)) 180 #[.int .i64 0, .int .i64 0, .int .i64 0, .int .i64 0, .int .i64 0]
  simp only [World.size_alloc] at D


  go_enter Tryz.func137, Tryz.ntmps137
  go_wp2
  exact bodyPost_ret (v := .agg #[.int .i64 1, .int .i64 x, .int .i64 ct, .int .i64 cq, .int .i64 v]) (by simp [results, Tryz.results137, go_sem]) rfl
    ⟨rfl, by first | exact bel_trans (bel_alloc _ _) (bel_alloc _ _) | exact ((((E0.setCell (by simp) _).setCell (by simp) _).setCell (by simp) _).setCell (by simp) _).setCell (by simp) _⟩

end Go.Proofs.YtjdepjpjjgkmbaaGreat

/- Words of chapter 5: what the functions of notes compute; no conditions. -/
namespace Go.Proofs.YtjdepjpjjgkmbaaGreat
open Go.RowKit

/-- A value that is right. -/
def valB (x : Int) : Bool := inB x 0 9999
/-- A seal that can be sent. -/
def seal1B (x : Int × Int) : Bool := inB x.1 0 9 && inB x.2 0 2147483646
/-- Seals that can be sent. -/
def sealsB (ps : List (Int × Int)) : Bool := ps.all seal1B
def fitB (ps : List (Int × Int)) : Bool := decide (ps.length ≤ 20) && sealsB ps
theorem fit_no {ps : List (Int × Int)} (h : ¬ ps.length ≤ 20) : fitB ps = false := by simp [fitB, h]
theorem fit_yes {ps : List (Int × Int)} (h : ps.length ≤ 20) : fitB ps = sealsB ps := by simp [fitB, h]
theorem sealsB_false {ps : List (Int × Int)} {k : Nat} (hk : k < ps.length) (h : seal1B (pth ps k) = false) : sealsB ps = false := by
  unfold sealsB
  rw [List.all_eq_false]
  refine ⟨ps[k], List.getElem_mem hk, ?_⟩
  rw [pth_lt hk] at h
  simp [h]
theorem sealsB_true {ps : List (Int × Int)} (h : ∀ j, j < ps.length → seal1B (pth ps j) = true) : sealsB ps = true := by
  unfold sealsB
  rw [List.all_eq_true]
  intro x hx
  obtain ⟨j, hj, rfl⟩ := List.getElem_of_mem hx
  have := h j hj
  rwa [pth_lt hj] at this

/-- A stamp that is zero. -/
def z2B (a b : Int) : Bool := decide (a = 0 ∧ b = 0)
theorem z2_cases (a b : Int) : (a = 0 ∧ b = 0 ∧ z2B a b = true) ∨ (z2B a b = false ∧ ((a == 0) = false ∨ ((a == 0) = true ∧ (b == 0) = false))) := by
  unfold z2B
  by_cases h1 : a = 0
  · by_cases h2 : b = 0
    · exact .inl ⟨h1, h2, by simp [h1, h2]⟩
    · exact .inr ⟨by simp [h2], .inr ⟨by simpa using h1, by simpa using h2⟩⟩
  · exact .inr ⟨by simp [h1], .inl (by simpa using h1)⟩
/-- A value that is zero. -/
def z1B (a : Int) : Bool := decide (a = 0)
theorem z1_cases (a : Int) : (a = 0 ∧ z1B a = true) ∨ (z1B a = false ∧ (a == 0) = false ∧ (a != 0) = true) := by
  unfold z1B
  by_cases h : a = 0
  · exact .inl ⟨h, by simp [h]⟩
  · exact .inr ⟨by simp [h], by simpa using h, by simpa using h⟩
/-- A list that is empty. -/
def z0B (n : Nat) : Bool := decide (n = 0)

/-- Has it a stamp, a value, a certificate? -/
def hvB (t1 t2 v1 : Int) (p : Nat) : Bool := !(z2B t1 t2 && z1B v1 && z0B p)
/-- Has it what was, or what was last? -/
def hpB (o1 o2 v2 : Int) (l1 l2 v3 : Int) (q : Nat) : Bool := !(z2B o1 o2 && z1B v2 && z2B l1 l2 && z1B v3 && z0B q)

/-- Is a note's kind right, and has it nothing that its kind has not? -/
def kdB (s l c sh : Int) (zs : List Int) (k1 k2 k3 : Int) (hv hp : Bool) : Bool :=
  if k1 = 1 then !hv && !hp && cliB s l c sh zs k2 && srvB s l c sh zs k3
  else if k1 = 5 then !hp && cliB s l c sh zs k2 && srvB s l c sh zs k3
  else if k1 = 3 then cliB s l c sh zs k2 && srvB s l c sh zs k3
  else if k1 = 2 ∨ k1 = 4 ∨ k1 = 6 then !hp && srvB s l c sh zs k2 && cliB s l c sh zs k3
  else false

/-- Three stamps that are right. -/
def stsB (t1 t2 o1 o2 l1 l2 : Int) : Bool := stB t1 t2 && stB o1 o2 && stB l1 l2
/-- Three values that are right. -/
def valsB (v1 v2 v3 : Int) : Bool := valB v1 && valB v2 && valB v3

/-- A note that is right. -/
def ntB (s l c sh : Int) (zs : List Int) (k1 k2 k3 k4 k5 t1 t2 v1 o1 o2 v2 : Int) (ps qs : List (Int × Int)) (l1 l2 v3 : Int) : Bool :=
  inB k4 0 100000 && shfB s l c sh zs k5 && stsB t1 t2 o1 o2 l1 l2 && valsB v1 v2 v3 && fitB ps && fitB qs && kdB s l c sh zs k1 k2 k3 (hvB t1 t2 v1 ps.length) (hpB o1 o2 v2 l1 l2 v3 qs.length)

/-- What AnswerTo answers. -/
def ansN (k : Int) : Int := if k = 1 then 2 else if k = 3 then 4 else if k = 5 then 6 else 0

theorem sixteen {w : World} {g : Nat} {t : TypeId} {a0 a1 a2 a3 a4 a5 a6 a7 a8 a9 a10 a11 a12 a13 a14 a15 : Value} (h : Box w g t #[a0, a1, a2, a3, a4, a5, a6, a7, a8, a9, a10, a11, a12, a13, a14, a15]) :
    w.cell? ⟨g, 0, none⟩ = some a0 ∧ w.cell? ⟨g, 1, none⟩ = some a1 ∧ w.cell? ⟨g, 2, none⟩ = some a2 ∧ w.cell? ⟨g, 3, none⟩ = some a3 ∧ w.cell? ⟨g, 4, none⟩ = some a4 ∧ w.cell? ⟨g, 5, none⟩ = some a5 ∧ w.cell? ⟨g, 6, none⟩ = some a6 ∧ w.cell? ⟨g, 7, none⟩ = some a7 ∧
    w.cell? ⟨g, 8, none⟩ = some a8 ∧ w.cell? ⟨g, 9, none⟩ = some a9 ∧ w.cell? ⟨g, 10, none⟩ = some a10 ∧ w.cell? ⟨g, 11, none⟩ = some a11 ∧ w.cell? ⟨g, 12, none⟩ = some a12 ∧ w.cell? ⟨g, 13, none⟩ = some a13 ∧ w.cell? ⟨g, 14, none⟩ = some a14 ∧ w.cell? ⟨g, 15, none⟩ = some a15 :=
  ⟨h.cell 0, h.cell 1, h.cell 2, h.cell 3, h.cell 4, h.cell 5, h.cell 6, h.cell 7, h.cell 8, h.cell 9, h.cell 10, h.cell 11, h.cell 12, h.cell 13, h.cell 14, h.cell 15⟩
theorem sixteenAfter {w : World} {g : Nat} {t : TypeId} {a0 a1 a2 a3 a4 a5 a6 a7 a8 a9 a10 a11 a12 a13 a14 a15 : Value} (h : Box w g t #[a0, a1, a2, a3, a4, a5, a6, a7, a8, a9, a10, a11, a12, a13, a14, a15]) :
    (∀ p : After w, p.x.cell? ⟨g, 0, none⟩ = some a0) ∧ (∀ p : After w, p.x.cell? ⟨g, 1, none⟩ = some a1) ∧ (∀ p : After w, p.x.cell? ⟨g, 2, none⟩ = some a2) ∧ (∀ p : After w, p.x.cell? ⟨g, 3, none⟩ = some a3) ∧ (∀ p : After w, p.x.cell? ⟨g, 4, none⟩ = some a4) ∧ (∀ p : After w, p.x.cell? ⟨g, 5, none⟩ = some a5) ∧ (∀ p : After w, p.x.cell? ⟨g, 6, none⟩ = some a6) ∧ (∀ p : After w, p.x.cell? ⟨g, 7, none⟩ = some a7) ∧
    (∀ p : After w, p.x.cell? ⟨g, 8, none⟩ = some a8) ∧ (∀ p : After w, p.x.cell? ⟨g, 9, none⟩ = some a9) ∧ (∀ p : After w, p.x.cell? ⟨g, 10, none⟩ = some a10) ∧ (∀ p : After w, p.x.cell? ⟨g, 11, none⟩ = some a11) ∧ (∀ p : After w, p.x.cell? ⟨g, 12, none⟩ = some a12) ∧ (∀ p : After w, p.x.cell? ⟨g, 13, none⟩ = some a13) ∧ (∀ p : After w, p.x.cell? ⟨g, 14, none⟩ = some a14) ∧ (∀ p : After w, p.x.cell? ⟨g, 15, none⟩ = some a15) :=
  ⟨After.cell h.lt (h.cell 0), After.cell h.lt (h.cell 1), After.cell h.lt (h.cell 2), After.cell h.lt (h.cell 3), After.cell h.lt (h.cell 4), After.cell h.lt (h.cell 5), After.cell h.lt (h.cell 6), After.cell h.lt (h.cell 7), After.cell h.lt (h.cell 8), After.cell h.lt (h.cell 9), After.cell h.lt (h.cell 10), After.cell h.lt (h.cell 11), After.cell h.lt (h.cell 12), After.cell h.lt (h.cell 13), After.cell h.lt (h.cell 14), After.cell h.lt (h.cell 15)⟩

end Go.Proofs.YtjdepjpjjgkmbaaGreat

/- What a walk over a note and a group keeps: both boxes, the keys, the lists; no conditions. -/
namespace Go.Proofs.YtjdepjpjjgkmbaaGreat
open Go.RowKit

/-- What a walk over a note and a group keeps: both boxes, and the keys. -/
structure NG (w wr : World) (tn tg : TypeId) (nc : Array Value) (gc : Array Value) (A : Option Addr) (n : Nat) (zs : List Int) (N G : Nat) : Prop where
  nb : Box wr N tn nc
  gb : Box wr G tg gc
  row : Row wr wr.heap.size A n zs
  bel : Below w.heap.size w wr
theorem NG.later {w wr w' : World} {tn tg : TypeId} {nc gc : Array Value} {A : Option Addr} {n : Nat} {zs : List Int} {N G : Nat} (h : NG w wr tn tg nc gc A n zs N G) (hb : Below wr.heap.size wr w') : NG w w' tn tg nc gc A n zs N G :=
  ⟨h.nb.later hb h.nb.lt, h.gb.later hb h.gb.lt, (h.row.below hb (Nat.le_refl _)).more hb.size, bel_trans h.bel hb⟩

theorem NG.start (w : World) (tn tg : TypeId) (nc gc : Array Value) (A : Option Addr) (n : Nat) (zs : List Int) (hr : Row w w.heap.size A n zs) :
    NG w ((w.alloc (.cells nc tn)).alloc (.cells gc tg)) tn tg nc gc A n zs w.heap.size (w.heap.size + 1) := by
  have E0 := bel_trans (bel_alloc w (.cells nc tn)) (bel_alloc _ (.cells gc tg))
  have G := Box.new (w.alloc (.cells nc tn)) tg gc
  simp only [World.size_alloc] at G
  exact ⟨(Box.new w _ _).alloc _, G, (hr.below E0 (Nat.le_refl _)).more E0.size, E0⟩

/-- The same, the group first, with the note's lists. -/
structure NGP (w wr : World) (tn tg : TypeId) (nc : Array Value) (gc : Array Value) (A : Option Addr) (n : Nat) (zs : List Int) (P : Option Addr) (p : Nat) (ps : List (Int × Int)) (Q : Option Addr) (q : Nat) (qs : List (Int × Int)) (G N : Nat) : Prop where
  nb : Box wr N tn nc
  gb : Box wr G tg gc
  row : Row wr wr.heap.size A n zs
  prs : Pairs wr wr.heap.size P p ps
  qrs : Pairs wr wr.heap.size Q q qs
  bel : Below w.heap.size w wr
theorem NGP.later {w wr w' : World} {tn tg : TypeId} {nc gc : Array Value} {A : Option Addr} {n : Nat} {zs : List Int} {P : Option Addr} {p : Nat} {ps : List (Int × Int)} {Q : Option Addr} {q : Nat} {qs : List (Int × Int)} {N G : Nat} (h : NGP w wr tn tg nc gc A n zs P p ps Q q qs N G) (hb : Below wr.heap.size wr w') : NGP w w' tn tg nc gc A n zs P p ps Q q qs N G :=
  ⟨h.nb.later hb h.nb.lt, h.gb.later hb h.gb.lt, (h.row.below hb (Nat.le_refl _)).more hb.size, h.prs.later hb, h.qrs.later hb, bel_trans h.bel hb⟩
theorem NGP.start (w : World) (tn tg : TypeId) (nc gc : Array Value) (A : Option Addr) (n : Nat) (zs : List Int) (P : Option Addr) (p : Nat) (ps : List (Int × Int)) (Q : Option Addr) (q : Nat) (qs : List (Int × Int)) (hr : Row w w.heap.size A n zs) (hp : Pairs w w.heap.size P p ps) (hq : Pairs w w.heap.size Q q qs) :
    NGP w ((w.alloc (.cells gc tg)).alloc (.cells nc tn)) tn tg nc gc A n zs P p ps Q q qs w.heap.size (w.heap.size + 1) := by
  have E0 := bel_trans (bel_alloc w (.cells gc tg)) (bel_alloc _ (.cells nc tn))
  have G := Box.new (w.alloc (.cells gc tg)) tn nc
  simp only [World.size_alloc] at G
  exact ⟨G, (Box.new w _ _).alloc _, (hr.below E0 (Nat.le_refl _)).more E0.size, hp.later E0, hq.later E0, E0⟩

end Go.Proofs.YtjdepjpjjgkmbaaGreat

/- A note's cells as one array, kept whole: a load of all of it, its single cells, its size; no conditions. -/
namespace Go.Proofs.YtjdepjpjjgkmbaaGreat
open Go.RowKit

/-- A load of a whole variable whose block is known. -/
theorem wpList_load_box {P : Program} {ops : Array Oper} {rest : List Oper} {o : Oper} {a : Act} {w : World} {Q : Exit → Act → World → Prop} (ty : TypeId) (x : Operand) (ho : o.op = .load ty x)
    (g : Nat) (hx : a.eval x = .pointer (some ⟨g, 0, none⟩)) (t : TypeId) (cs : Array Value) (hg : Box w g t cs) (d : TypeDesc)
    (hu : P.underlying ty = some d) (hd : (match d with | .struct _ | .array _ _ => true | _ => false) = true) (hi : (P.info? ty).map (·.size) = some cs.size)
    (hw : Region.wanted o (yielded ops a.tmps) = true) (h : wpList P ops Q rest (a.put o.dst (.agg cs)) w) : wpList P ops Q (o :: rest) a w := by
  unfold wpList
  rw [if_pos hw]
  exact .inl (wp_load_row ty x ho g hx t cs (0, 0) d hg hu hd hi h)

section
variable {N : Array Value} {k1 k2 k3 k4 k5 t1 t2 v1 o1 o2 v2 : Int} {P : Option Addr} {p pc : Nat} {Q : Option Addr} {q qc : Nat} {l1 l2 v3 : Int}
theorem sizeN (hN : N = #[.int .i64 k1, .int .i64 k2, .int .i64 k3, .int .i64 k4, .int .i64 k5, .int .i64 t1, .int .i64 t2, .int .i64 v1, .int .i64 o1, .int .i64 o2, .int .i64 v2, .slice P p pc, .slice Q q qc, .int .i64 l1, .int .i64 l2, .int .i64 v3]) : (Tryz.prog.info? 85).map (·.size) = some N.size := by subst hN; kernel_rfl
theorem sizeL (hN : N = #[.int .i64 k1, .int .i64 k2, .int .i64 k3, .int .i64 k4, .int .i64 k5, .int .i64 t1, .int .i64 t2, .int .i64 v1, .int .i64 o1, .int .i64 o2, .int .i64 v2, .slice P p pc, .slice Q q qc, .int .i64 l1, .int .i64 l2, .int .i64 v3]) : (Tryz.prog.info? 75).map (·.size) = some N.size := by subst hN; kernel_rfl
theorem len16 (hN : N = #[.int .i64 k1, .int .i64 k2, .int .i64 k3, .int .i64 k4, .int .i64 k5, .int .i64 t1, .int .i64 t2, .int .i64 v1, .int .i64 o1, .int .i64 o2, .int .i64 v2, .slice P p pc, .slice Q q qc, .int .i64 l1, .int .i64 l2, .int .i64 v3]) : N.size = 16 := by subst hN; rfl
theorem cellsN (hN : N = #[.int .i64 k1, .int .i64 k2, .int .i64 k3, .int .i64 k4, .int .i64 k5, .int .i64 t1, .int .i64 t2, .int .i64 v1, .int .i64 o1, .int .i64 o2, .int .i64 v2, .slice P p pc, .slice Q q qc, .int .i64 l1, .int .i64 l2, .int .i64 v3]) : N[0]? = some (.int .i64 k1) ∧ N[1]? = some (.int .i64 k2) ∧ N[2]? = some (.int .i64 k3) ∧ N[3]? = some (.int .i64 k4) ∧ N[4]? = some (.int .i64 k5) ∧ N[5]? = some (.int .i64 t1) ∧ N[6]? = some (.int .i64 t2) ∧ N[7]? = some (.int .i64 v1) ∧
    N[8]? = some (.int .i64 o1) ∧ N[9]? = some (.int .i64 o2) ∧ N[10]? = some (.int .i64 v2) ∧ N[11]? = some (.slice P p pc) ∧ N[12]? = some (.slice Q q qc) ∧ N[13]? = some (.int .i64 l1) ∧ N[14]? = some (.int .i64 l2) ∧ N[15]? = some (.int .i64 v3) := by
  subst hN
  exact ⟨rfl, rfl, rfl, rfl, rfl, rfl, rfl, rfl, rfl, rfl, rfl, rfl, rfl, rfl, rfl, rfl⟩
end

end Go.Proofs.YtjdepjpjjgkmbaaGreat

/- A note's cells as one array: its shape, its parts, a variable written whole; no conditions. -/
namespace Go.Proofs.YtjdepjpjjgkmbaaGreat
open Go.RowKit

theorem size_setRow (w : World) (g : Nat) (cs : Array Value) : (w.setRow g cs).heap.size = w.heap.size := by simp [World.setRow]
theorem Box.setRow {w : World} {g : Nat} {t : TypeId} {old : Array Value} (h : Box w g t old) (cs : Array Value) : Box (w.setRow g cs) g t cs := by
  unfold Box at h ⊢
  simp [World.setRow, Array.getElem?_modify, h]
theorem heap_setRow (w : World) (g : Nat) (cs : Array Value) (k : Nat) (h : k ≠ g) : (w.setRow g cs).heap[k]? = w.heap[k]? := by
  simp [World.setRow, Array.getElem?_modify, show ¬ g = k from fun e => h e.symm]
theorem grown_setRow {a b : World} {g : Nat} (h : a.grownBy b (some g)) (cs : Array Value) : a.grownBy (b.setRow g cs) (some g) :=
  ⟨h.os, h.tape, h.output, by rw [size_setRow]; exact h.size, fun k hk hne => (heap_setRow b g cs k (fun e => hne (by rw [e]))).trans (h.block k hk hne)⟩

/-- A note's cells: fourteen numbers, and these two lists. -/
def Shape (N : Array Value) (c m : Value) : Prop := ∃ k1 k2 k3 k4 k5 t1 t2 v1 o1 o2 v2 l1 l2 v3 : Int, N = #[.int .i64 k1, .int .i64 k2, .int .i64 k3, .int .i64 k4, .int .i64 k5, .int .i64 t1, .int .i64 t2, .int .i64 v1, .int .i64 o1, .int .i64 o2, .int .i64 v2, c, m, .int .i64 l1, .int .i64 l2, .int .i64 v3]
/-- A place in a note that is a number. -/
def isNum (i : Nat) : Prop := i = 0 ∨ i = 1 ∨ i = 2 ∨ i = 3 ∨ i = 4 ∨ i = 5 ∨ i = 6 ∨ i = 7 ∨ i = 8 ∨ i = 9 ∨ i = 10 ∨ i = 13 ∨ i = 14 ∨ i = 15
theorem Shape.size {N : Array Value} {c m : Value} (h : Shape N c m) : N.size = 16 := by
  obtain ⟨k1, k2, k3, k4, k5, t1, t2, v1, o1, o2, v2, l1, l2, v3, rfl⟩ := h; rfl
theorem Shape.info {N : Array Value} {c m : Value} (h : Shape N c m) : (Tryz.prog.info? 85).map (·.size) = some N.size := by
  rw [h.size]; kernel_rfl
theorem Shape.put {N : Array Value} {c m : Value} (h : Shape N c m) {i : Nat} (hi : isNum i) (z : Int) : Shape (N.setIfInBounds i (.int .i64 z)) c m := by
  obtain ⟨k1, k2, k3, k4, k5, t1, t2, v1, o1, o2, v2, l1, l2, v3, rfl⟩ := h
  rcases hi with rfl | rfl | rfl | rfl | rfl | rfl | rfl | rfl | rfl | rfl | rfl | rfl | rfl | rfl
  · exact ⟨z, k2, k3, k4, k5, t1, t2, v1, o1, o2, v2, l1, l2, v3, rfl⟩
  · exact ⟨k1, z, k3, k4, k5, t1, t2, v1, o1, o2, v2, l1, l2, v3, rfl⟩
  · exact ⟨k1, k2, z, k4, k5, t1, t2, v1, o1, o2, v2, l1, l2, v3, rfl⟩
  · exact ⟨k1, k2, k3, z, k5, t1, t2, v1, o1, o2, v2, l1, l2, v3, rfl⟩
  · exact ⟨k1, k2, k3, k4, z, t1, t2, v1, o1, o2, v2, l1, l2, v3, rfl⟩
  · exact ⟨k1, k2, k3, k4, k5, z, t2, v1, o1, o2, v2, l1, l2, v3, rfl⟩
  · exact ⟨k1, k2, k3, k4, k5, t1, z, v1, o1, o2, v2, l1, l2, v3, rfl⟩
  · exact ⟨k1, k2, k3, k4, k5, t1, t2, z, o1, o2, v2, l1, l2, v3, rfl⟩
  · exact ⟨k1, k2, k3, k4, k5, t1, t2, v1, z, o2, v2, l1, l2, v3, rfl⟩
  · exact ⟨k1, k2, k3, k4, k5, t1, t2, v1, o1, z, v2, l1, l2, v3, rfl⟩
  · exact ⟨k1, k2, k3, k4, k5, t1, t2, v1, o1, o2, z, l1, l2, v3, rfl⟩
  · exact ⟨k1, k2, k3, k4, k5, t1, t2, v1, o1, o2, v2, z, l2, v3, rfl⟩
  · exact ⟨k1, k2, k3, k4, k5, t1, t2, v1, o1, o2, v2, l1, z, v3, rfl⟩
  · exact ⟨k1, k2, k3, k4, k5, t1, t2, v1, o1, o2, v2, l1, l2, z, rfl⟩
theorem Shape.cert {N : Array Value} {c m : Value} (h : Shape N c m) (v : Value) : Shape (N.setIfInBounds 11 v) v m := by
  obtain ⟨k1, k2, k3, k4, k5, t1, t2, v1, o1, o2, v2, l1, l2, v3, rfl⟩ := h
  exact ⟨k1, k2, k3, k4, k5, t1, t2, v1, o1, o2, v2, l1, l2, v3, rfl⟩
theorem Shape.more {N : Array Value} {c m : Value} (h : Shape N c m) (v : Value) : Shape (N.setIfInBounds 12 v) c v := by
  obtain ⟨k1, k2, k3, k4, k5, t1, t2, v1, o1, o2, v2, l1, l2, v3, rfl⟩ := h
  exact ⟨k1, k2, k3, k4, k5, t1, t2, v1, o1, o2, v2, l1, l2, v3, rfl⟩
theorem Shape.num {N : Array Value} {c m : Value} (h : Shape N c m) {i : Nat} (hi : isNum i) : ∃ z : Int, N[i]? = some (.int .i64 z) := by
  obtain ⟨k1, k2, k3, k4, k5, t1, t2, v1, o1, o2, v2, l1, l2, v3, rfl⟩ := h
  rcases hi with rfl | rfl | rfl | rfl | rfl | rfl | rfl | rfl | rfl | rfl | rfl | rfl | rfl | rfl <;> exact ⟨_, rfl⟩
theorem Shape.at11 {N : Array Value} {c m : Value} (h : Shape N c m) : N[11]? = some c := by
  obtain ⟨k1, k2, k3, k4, k5, t1, t2, v1, o1, o2, v2, l1, l2, v3, rfl⟩ := h; rfl
theorem Shape.at12 {N : Array Value} {c m : Value} (h : Shape N c m) : N[12]? = some m := by
  obtain ⟨k1, k2, k3, k4, k5, t1, t2, v1, o1, o2, v2, l1, l2, v3, rfl⟩ := h; rfl
theorem Shape.one {N : Array Value} {c m : Value} (h : Shape N c m) (hc : c.oneCell' = true) (hm : m.oneCell' = true) : N.all (·.oneCell') = true := by
  obtain ⟨k1, k2, k3, k4, k5, t1, t2, v1, o1, o2, v2, l1, l2, v3, rfl⟩ := h
  rw [Array.all_eq_true_iff_forall_mem]
  intro x hx
  simp only [List.mem_toArray, List.mem_cons, List.not_mem_nil, or_false] at hx
  rcases hx with rfl | rfl | rfl | rfl | rfl | rfl | rfl | rfl | rfl | rfl | rfl | rfl | rfl | rfl | rfl | rfl <;> first | rfl | exact hc | exact hm
/-- The zero note. -/
def ZN : Array Value := #[.int .i64 0, .int .i64 0, .int .i64 0, .int .i64 0, .int .i64 0, .int .i64 0, .int .i64 0, .int .i64 0, .int .i64 0, .int .i64 0, .int .i64 0, .slice none 0 0, .slice none 0 0, .int .i64 0, .int .i64 0, .int .i64 0]

end Go.Proofs.YtjdepjpjjgkmbaaGreat
