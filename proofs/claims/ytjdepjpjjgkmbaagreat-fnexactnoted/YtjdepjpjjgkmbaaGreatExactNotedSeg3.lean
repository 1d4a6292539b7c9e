/- The program's onto: a record is done to a shelf (written by onto9.py); conditions: the sizes. -/
import Derived.Test.YtjdepjpjjgkmbaaGreatExactNotedSeg2
import Derived.Test.YtjdepjpjjgkmbaaGreatExactNotedSeg1
import Derived.Deep.MidRow
import Derived.Deep.Slices
import Derived.Lib.AppendZerosOnto
import Derived.Laws.AppendOwnNone
import Derived.Test.YtjdepjpjjgkmbaaGreatExactNotedSeg0
import Derived.OrdersIn
import Derived.RangeFuncNested
import Derived.RangeFuncBound
import Derived.RangeFuncCalls
import Derived.RangeFuncLeaves
import Derived.Shelf.Abstract
import Derived.Shelf.RegionOpen
import Derived.WalkKit
import Derived.OwnWalkIn
import Derived.TacticsInMore
import Derived.LoopNIn
import Derived.LoopIn
import Derived.Sort.CutIn
import Derived.Deep.AppendLies
import Derived.Laws.Pointers
import Derived.Deep.RegionLaw
import Derived.Deep.CutBlock

/- RecOk of the model at every group and record; conditions: the lists' sizes are such as memory holds. -/
namespace Go.Proofs.YtjdepjpjjgkmbaaGreat
open Go Go.RowKit

theorem l1InR_is {x lo hi : Int} {b : Bool} (h : inB x lo hi = b) (w : World) : Calls Tryz.prog 174 #[.int .i64 x, .int .i64 lo, .int .i64 hi] w fun e w' => e = .returned (.bool b) ∧ w = w' := h ▸ l1In_any x lo hi w
theorem specOkR_is {s l c sh : Int} {zs : List Int} {b : Bool} (h : okB s l c sh zs = b) (A : Option Addr) (n cap : Nat) (w : World) (hm : n ≤ maxLen) (hr : Row w w.heap.size A n zs) :
    Calls Tryz.prog 133 #[.agg #[.int .i64 s, .int .i64 l, .int .i64 c, .int .i64 sh, .slice A n cap]] w fun e w' => e = .returned (.bool b) ∧ Below w.heap.size w w' := h ▸ specGroup_any s l c sh A n cap zs w hm hr
theorem specSumOfB_is {r1 r2 r3 r4 r5 r6 r7 : Int} {ps : List (Int × Int)} {z : Int} (hz : sumN r1 r2 r3 r4 r5 r6 r7 ps = z) (L : Option Addr) (m mc : Nat) (r8 : Int) (w : World) (hm : m ≤ 4194304) (hr : Pairs w w.heap.size L m ps) :
    Calls Tryz.prog 141 #[.agg #[.int .i64 r1, .int .i64 r2, .int .i64 r3, .int .i64 r4, .int .i64 r5, .int .i64 r6, .int .i64 r7, .slice L m mc, .int .i64 r8]] w fun e w' => e = .returned (.int .i64 z) ∧ Below w.heap.size w w' := hz ▸ specSumOf_is r1 r2 r3 r4 r5 r6 r7 L m mc r8 ps w hm hr
theorem l7ProvenB_is {s l c sh : Int} {zs : List Int} {x ct cq v : Int} {ps : List (Int × Int)} {b : Bool} (hb : lefB s l c sh zs x ct cq v ps = b) (A : Option Addr) (n cap : Nat) (P : Option Addr) (m pcap : Nat) (w : World) (hm : n ≤ maxLen) (hr : Row w w.heap.size A n zs) (hn : m ≤ 4194304) (h : Pairs w w.heap.size P m ps) :
    Calls Tryz.prog 181 #[.agg #[.int .i64 s, .int .i64 l, .int .i64 c, .int .i64 sh, .slice A n cap], .int .i64 x, .agg #[.int .i64 ct, .int .i64 cq], .int .i64 v, .slice P m pcap] w fun e w' => e = .returned (.bool b) ∧ Below w.heap.size w w' := hb ▸ l7Proven_is s l c sh A n cap zs x ct cq v P m pcap ps w hm hr hn h

set_option maxRecDepth 100000 in
set_option maxHeartbeats 4000000 in
theorem specRecOk_is {s l c sh : Int} {zs : List Int} {r1 r2 r3 r4 r5 r6 r7 r8 : Int} {ps : List (Int × Int)} {b : Bool} (hb : rokB s l c sh zs r1 r2 r3 r4 r5 r6 r7 ps r8 = b) (A : Option Addr) (n cap : Nat) (L : Option Addr) (m mc : Nat) (w : World) (hn : n ≤ maxLen) (hr : Row w w.heap.size A n zs) (hm : m ≤ 4194304) (hp : Pairs w w.heap.size L m ps) :
    Calls Tryz.prog 134 #[.agg #[.int .i64 s, .int .i64 l, .int .i64 c, .int .i64 sh, .slice A n cap], .agg #[.int .i64 r1, .int .i64 r2, .int .i64 r3, .int .i64 r4, .int .i64 r5, .int .i64 r6, .int .i64 r7, .slice L m mc, .int .i64 r8]] w fun e w' => e = .returned (.bool b) ∧ Below w.heap.size w w' := by
  have G := (Box.new w 26 #[.int .i64 s, .int .i64 l, .int .i64 c, .int .i64 sh, .slice A n cap]).alloc (.cells #[.int .i64 r1, .int .i64 r2, .int .i64 r3, .int .i64 r4, .int .i64 r5, .int .i64 r6, .int .i64 r7, .slice L m mc, .int .i64 r8] 46)
  have D := Box.new (w.alloc (.cells #[.int .i64 s, .int .i64 l, .int .i64 c, .int .i64 sh, .slice A n cap] 26)) 46 #[.int .i64 r1, .int .i64 r2, .int .i64 r3, .int .i64 r4, .int .i64 r5, .int .i64 r6, .int .i64 r7, .slice L m mc, .int .i64 r8]
  have E := bel_trans (bel_alloc w (.cells #[.int .i64 s, .int .i64 l, .int .i64 c, .int .i64 sh, .slice A n cap] 26)) (bel_alloc _ (.cells #[.int .i64 r1, .int .i64 r2, .int .i64 r3, .int .i64 r4, .int .i64 r5, .int .i64 r6, .int .i64 r7, .slice L m mc, .int .i64 r8] 46))
  simp only [World.size_alloc] at D
  have HR := Lib.hid ((hr.below E (Nat.le_refl _)).more E.size)
  have HP := Lib.hid (hp.later E)
  have HL := Lib.hid hp.1
  have HM := Lib.hid hn
  have HB := Lib.hid hb
  clear hr hn hp hb
  go_enter Tryz.func134, Tryz.ntmps134
  go_upto_region 1 with fail
  generalize ((w.alloc _).alloc _ : World) = w0 at D G E HR HP ⊢
  obtain ⟨f0, f1, f2, f3, f4, f5, f6, f7, f8⟩ := nineAfter D
  obtain ⟨e0, e1, e2, e3, e4⟩ := fiveAfter G
  rcases h1 : inB r1 1 400 with _ | _
  · have HV : Hid (b = false) := Lib.hid (by rw [← HB.out]; unfold rokB; simp [h1])
    have H1 := Lib.hid h1
    clear h1
    refine wp_region_after (by kernel_rfl) (by kernel_rfl) ?_
    repeat (first | go_big_quiet_step ((go_at_call 174; with_reducible exact after_same (l1InR_is H1.out _))) | quiet_step ((go_at_call 174; with_reducible exact after_same (l1InR_is H1.out _))))
    refine wpQuiet_nil ?_
    intro pw
    go_wp2
    go_ret
    exact ⟨by rw [HV.out]; rfl, bel_trans E pw.bel⟩
  rcases h2 : okB s l c sh zs with _ | _
  · have HV : Hid (b = false) := Lib.hid (by rw [← HB.out]; unfold rokB shfB; simp [h2])
    have H1 := Lib.hid h1
    have H2 := Lib.hid h2
    clear h1 h2
    refine wp_region_after (by kernel_rfl) (by kernel_rfl) ?_
    repeat (first | go_big_quiet_step ((first | (go_at_call 174; with_reducible exact after_same (l1InR_is H1.out _)) | (go_at_call 133; exact after_of (specOkR_is H2.out A n cap _ HM.out (rowAfter HR.out _))))) | quiet_step ((first | (go_at_call 174; with_reducible exact after_same (l1InR_is H1.out _)) | (go_at_call 133; exact after_of (specOkR_is H2.out A n cap _ HM.out (rowAfter HR.out _))))))
    refine wpQuiet_nil ?_
    intro pw
    go_wp2
    go_ret
    exact ⟨by rw [HV.out]; rfl, bel_trans E pw.bel⟩
  obtain ⟨hs1, hs2⟩ := okB_sh h2
  have hw : IntKind.i64.wrap (sh - 1) = sh - 1 := IntWalk.i64_in _ (by omega)
  rcases h3 : inB r3 0 (sh - 1) with _ | _
  · have HV : Hid (b = false) := Lib.hid (by rw [← HB.out]; unfold rokB shfB; simp [h3])
    have H1 := Lib.hid h1
    have H2 := Lib.hid h2
    have H3 := Lib.hid h3
    clear h1 h2 h3
    refine wp_region_after (by kernel_rfl) (by kernel_rfl) ?_
    repeat (first | go_big_quiet_step ((first | (go_at_call 174; with_reducible exact after_same (l1InR_is H1.out _)) | (go_at_call 133; exact after_of (specOkR_is H2.out A n cap _ HM.out (rowAfter HR.out _))) | (go_at_call 174; with_reducible exact after_same (l1InR_is H3.out _)))) | quiet_step ((first | (go_at_call 174; with_reducible exact after_same (l1InR_is H1.out _)) | (go_at_call 133; exact after_of (specOkR_is H2.out A n cap _ HM.out (rowAfter HR.out _))) | (go_at_call 174; with_reducible exact after_same (l1InR_is H3.out _)))))
    refine wpQuiet_nil ?_
    intro pw
    go_wp2
    go_ret
    exact ⟨by rw [HV.out]; rfl, bel_trans E pw.bel⟩
  obtain ⟨z, h4⟩ : ∃ z, sumN r1 r2 r3 r4 r5 r6 r7 ps = z := ⟨_, rfl⟩
  by_cases hz : r8 = z
  case neg =>
    have HV : Hid (b = false) := Lib.hid (by rw [← HB.out]; unfold rokB; simp [h4, hz])
    have hz1 : (r8 != z) = true := by simpa using hz
    have H1 := Lib.hid h1
    have H2 := Lib.hid h2
    have H3 := Lib.hid h3
    have H4 := Lib.hid h4
    clear h1 h2 h3 h4 hz
    refine wp_region_after (by kernel_rfl) (by kernel_rfl) ?_
    repeat (first | go_big_quiet_step ((first | (go_at_call 174; with_reducible exact after_same (l1InR_is H1.out _)) | (go_at_call 133; exact after_of (specOkR_is H2.out A n cap _ HM.out (rowAfter HR.out _))) | (go_at_call 174; with_reducible exact after_same (l1InR_is H3.out _)) | (go_at_call 141; exact after_of (specSumOfB_is H4.out L m mc _ _ hm (pairsAfter HP.out _))))) | quiet_step ((first | (go_at_call 174; with_reducible exact after_same (l1InR_is H1.out _)) | (go_at_call 133; exact after_of (specOkR_is H2.out A n cap _ HM.out (rowAfter HR.out _))) | (go_at_call 174; with_reducible exact after_same (l1InR_is H3.out _)) | (go_at_call 141; exact after_of (specSumOfB_is H4.out L m mc _ _ hm (pairsAfter HP.out _))))))
    refine wpQuiet_nil ?_
    intro pw
    go_wp2
    go_ret
    exact ⟨by rw [HV.out]; rfl, bel_trans E pw.bel⟩
  subst hz
  have HK : Hid (kndB s l c sh zs r2 r3 r4 r5 r6 r7 ps = b) := Lib.hid (by rw [← HB.out]; unfold rokB shfB; simp [h1, h2, h3, h4])
  have hz1 : (r8 != r8) = false := by simp
  have H1 := Lib.hid h1
  have H2 := Lib.hid h2
  have H3 := Lib.hid h3
  have H4 := Lib.hid h4
  clear h1 h2 h3 h4
  refine wp_region_after (by kernel_rfl) (by kernel_rfl) ?_
  repeat (first | go_big_quiet_step ((first | (go_at_call 174; with_reducible exact after_same (l1InR_is H1.out _)) | (go_at_call 133; exact after_of (specOkR_is H2.out A n cap _ HM.out (rowAfter HR.out _))) | (go_at_call 174; with_reducible exact after_same (l1InR_is H3.out _)) | (go_at_call 141; exact after_of (specSumOfB_is H4.out L m mc _ _ hm (pairsAfter HP.out _))))) | quiet_step ((first | (go_at_call 174; with_reducible exact after_same (l1InR_is H1.out _)) | (go_at_call 133; exact after_of (specOkR_is H2.out A n cap _ HM.out (rowAfter HR.out _))) | (go_at_call 174; with_reducible exact after_same (l1InR_is H3.out _)) | (go_at_call 141; exact after_of (specSumOfB_is H4.out L m mc _ _ hm (pairsAfter HP.out _))))))
  refine wpQuiet_nil ?_
  intro pw
  clear f0 f1 f2 f3 f4 f5 f6 f7 f8 e0 e1 e2 e3 e4 H1 H2 H3 H4
  have D := D.later pw.bel D.lt
  have G := G.later pw.bel G.lt
  have E := bel_trans E pw.bel
  have R0 := rowAfter HR.out pw
  have P0 := pairsAfter HP.out pw
  generalize pw.x = w1 at D G E R0 P0 ⊢
  have HR := Lib.hid R0
  have HP := Lib.hid P0
  clear R0 P0
  obtain ⟨d0, d1, d2, d3, d4, d5, d6, d7, d8⟩ := D.nine
  obtain ⟨g0, g1, g2, g3, g4⟩ := G.five
  by_cases h1 : r2 = 1
  · subst h1
    rcases ho : opnB s l c sh zs (r4, r5, r6, r7) with _ | _
    · have HV : Hid (b = false) := Lib.hid (by rw [← HK.out]; unfold kndB; simp [ho])
      have HO := Lib.hid ho
      clear ho
      go_wp2_with fail
      refine (l7OpenB_is HO.out A n cap w1 HM.out HR.out).mono ?_
      rintro e w2 ⟨rfl, hb⟩
      have E2 := bel_trans E hb
      go_wp2
      go_ret
      exact ⟨by rw [HV.out]; rfl, E2⟩
    · have HO := Lib.hid ho
      have HV : Hid (b = decide (ps = [])) := Lib.hid (by rw [← HK.out]; unfold kndB; simp [ho])
      clear ho
      go_wp2_with fail
      refine (l7OpenB_is HO.out A n cap w1 HM.out HR.out).mono ?_
      rintro e w2 ⟨rfl, hb⟩
      have E2 := bel_trans E hb
      have d7 := (D.later hb D.lt).cell 7
      rcases Nat.eq_zero_or_pos m with hz | hz
      · have HQ : Hid (b = true) := Lib.hid (by
          have : ps = [] := List.eq_nil_of_length_eq_zero (HL.out.trans hz)
          rw [HV.out]; simp [this])
        subst hz
        go_wp2
        go_ret
        exact ⟨by rw [HQ.out]; rfl, E2⟩
      · have HQ : Hid (b = false) := Lib.hid (by
          have : ps ≠ [] := fun e => by have := HL.out; rw [e] at this; simp at this; omega
          rw [HV.out]; simp [this])
        have hm0 : ((m : Int) == 0) = false := by simp; omega
        go_wp2
        go_ret
        exact ⟨by rw [HQ.out]; rfl, E2⟩
  by_cases h2 : r2 = 2
  · subst h2
    by_cases h4 : r4 = 0
    · subst h4
      rcases zero_cases r5 r6 with ⟨rfl, rfl⟩ | ⟨hcase, hnz⟩
      · have HV : Hid (b = false) := Lib.hid (by rw [← HK.out]; unfold kndB; simp)
        go_wp2_with fail
        refine (l4Zero_yes w1).mono ?_
        rintro e w2 ⟨rfl, hb⟩
        have E2 := bel_trans E hb
        go_wp2
        go_ret
        exact ⟨by rw [HV.out]; rfl, E2⟩
      · have HF : Hid (lefB s l c sh zs r3 r5 r6 r7 ps = b) := Lib.hid (by rw [← HK.out]; unfold kndB; simp [hnz])
        have HC := Lib.hid hcase
        clear hnz hcase
        go_wp2_with fail
        refine (l4Zero_no r5 r6 HC.out w1).mono ?_
        rintro e w2 ⟨rfl, hb⟩
        have E2 := bel_trans E hb
        have D2 := D.later hb D.lt
        have G2 := G.later hb G.lt
        have HR2 := Lib.hid ((HR.out.below hb (Nat.le_refl _)).more hb.size)
        have HP2 := Lib.hid (HP.out.later hb)
        clear d0 d1 d2 d3 d4 d5 d6 d7 d8 g0 g1 g2 g3 g4 hb D G E HR HP
        obtain ⟨d0, d1, d2, d3, d4, d5, d6, d7, d8⟩ := D2.nine
        obtain ⟨g0, g1, g2, g3, g4⟩ := G2.five
        go_wp2_with fail
        refine (l7ProvenB_is HF.out A n cap L m mc w2 HM.out HR2.out hm HP2.out).mono ?_
        rintro e w3 ⟨rfl, hb⟩
        have E3 := bel_trans E2 hb
        go_wp2
        go_ret
        exact ⟨rfl, E3⟩
    · have HV : Hid (b = false) := Lib.hid (by rw [← HK.out]; unfold kndB; simp [h4])
      have h4' : (r4 == 0) = false := by simpa using h4
      go_wp2
      go_ret
      exact ⟨by rw [HV.out]; rfl, E⟩
  · have HV : Hid (b = false) := Lib.hid (by rw [← HK.out]; unfold kndB; simp [h1, h2])
    have h1' : (r2 == 1) = false := by simpa using h1
    have h2' : (r2 == 2) = false := by simpa using h2
    go_wp2
    go_ret
    exact ⟨by rw [HV.out]; rfl, E⟩

end Go.Proofs.YtjdepjpjjgkmbaaGreat

/- RecOk as a law meets it: over copies of a group and a record as data; conditions: the sizes. -/
namespace Go.Proofs.YtjdepjpjjgkmbaaGreat
open Go Go.RowKit

/-- What RecOk answers. -/
def rokD (g : GrpD) (d : RecD) : Bool := rokB g.s g.l g.c g.sh g.zs d.r1 d.r2 d.r3 d.r4 d.r5 d.r6 d.r7 d.ps d.r8
end Go.Proofs.YtjdepjpjjgkmbaaGreat

/- What is replayed, as data: one record laid on its shelf, all of them, one after the other; how long it can get; no conditions. -/
namespace Go.Proofs.YtjdepjpjjgkmbaaGreat
open Go Go.RowKit

def zeroR : RegD := ⟨0, 0, 0, [], []⟩
/-- A shelf with a record done to it. -/
def ontoD (g : GrpD) (d : RecD) (r : RegD) : RegD :=
  if d.r2 = 1 then ⟨r.t, r.q, r.v, r.ps, withO r.os (d.r4, d.r5, d.r6, d.r7)⟩
  else
    let o := outW g.s g.l g.c g.sh g.zs d.r3 r.t r.q r.v r.ps r.os d.r5 d.r6 d.r7 d.ps
    ⟨o.t, o.q, o.v, o.cs, o.os⟩
/-- Is it right where it stands? -/
def isAt (g : GrpD) (ds : List RecD) (i : Nat) : Bool :=
  match ds[i]? with
  | some d => decide (d.r1 = (i : Int) + 1) && rokD g d
  | none => false
def regOf (rs : List RegD) (i : Nat) : RegD := rs.getD i zeroR
def stepR (g : GrpD) (rs : List RegD) (d : RecD) : List RegD := rs.set d.r3.toNat (ontoD g d (regOf rs d.r3.toNat))
def shelves (g : GrpD) (ds : List RecD) : List RegD := ds.foldl (stepR g) (List.replicate g.sh.toNat zeroR)
def okG (g : GrpD) : Bool := okB g.s g.l g.c g.sh g.zs
def allAt (g : GrpD) (ds : List RecD) : Bool := (List.range ds.length).all (isAt g ds)
/-- What Replayed answers. -/
def replD (g : GrpD) (ds : List RecD) : List RegD × Bool := if okG g && allAt g ds then (shelves g ds, true) else ([], false)

theorem shelves_snoc (g : GrpD) (ds : List RecD) {k : Nat} (h : k < ds.length) : shelves g (ds.take (k + 1)) = stepR g (shelves g (ds.take k)) ds[k] := by
  unfold shelves
  rw [List.take_succ_eq_append_getElem h, List.foldl_append, List.foldl_cons, List.foldl_nil]
theorem stepR_len (g : GrpD) (rs : List RegD) (d : RecD) : (stepR g rs d).length = rs.length := by simp [stepR]
theorem shelves_len (g : GrpD) (ds : List RecD) : (shelves g ds).length = g.sh.toNat := by
  have key : ∀ (ds : List RecD) (rs : List RegD), (ds.foldl (stepR g) rs).length = rs.length := by
    intro ds
    induction ds with
    | nil => intro rs; rfl
    | cons d ds ih => intro rs; rw [List.foldl_cons, ih, stepR_len]
  unfold shelves
  rw [key, List.length_replicate]
theorem isAt_lt {g : GrpD} {ds : List RecD} {i : Nat} (h : i < ds.length) : isAt g ds i = (decide ((ds[i]).r1 = (i : Int) + 1) && rokD g ds[i]) := by
  unfold isAt
  rw [List.getElem?_eq_getElem h]
theorem allAt_false {g : GrpD} {ds : List RecD} {i : Nat} (h : i < ds.length) (hf : isAt g ds i = false) : allAt g ds = false := by
  unfold allAt
  rw [List.all_eq_false]
  exact ⟨i, List.mem_range.2 h, by simp [hf]⟩
theorem allAt_true {g : GrpD} {ds : List RecD} (h : ∀ i, i < ds.length → isAt g ds i = true) : allAt g ds = true := by
  unfold allAt
  rw [List.all_eq_true]
  exact fun i hi => h i (List.mem_range.1 hi)
/-- A right record is for a shelf of the group, which is right. -/
theorem rok_shelf {g : GrpD} {d : RecD} (h : rokD g d = true) : 0 ≤ d.r3 ∧ d.r3 ≤ g.sh - 1 ∧ okG g = true ∧ kndB g.s g.l g.c g.sh g.zs d.r2 d.r3 d.r4 d.r5 d.r6 d.r7 d.ps = true := by
  unfold rokD rokB shfB at h
  simp only [Bool.and_eq_true] at h
  obtain ⟨⟨⟨_, h1, h2⟩, h3⟩, _⟩ := h
  have := inB_true.1 h2
  exact ⟨this.1, this.2, h1, h3⟩
/-- How long a list of records is, with all that it holds. -/
def totC (ds : List RecD) : Nat := (ds.map fun d => 1 + d.ps.length).sum
theorem totC_snoc (ds : List RecD) {k : Nat} (h : k < ds.length) : totC (ds.take (k + 1)) = totC (ds.take k) + (1 + (ds[k]).ps.length) := by
  unfold totC
  rw [List.take_succ_eq_append_getElem h, List.map_append, List.sum_append]
  simp
theorem totC_take (ds : List RecD) (k : Nat) : totC (ds.take k) ≤ totC ds := by
  have h : totC (ds.take k) + totC (ds.drop k) = totC ds := by
    unfold totC
    rw [← List.sum_append, ← List.map_append, List.take_append_drop]
  omega
theorem totC_mem (ds : List RecD) {k : Nat} (h : k < ds.length) : 1 + (ds[k]).ps.length ≤ totC ds := by
  have h1 := totC_snoc ds h
  have h2 := totC_take ds (k + 1)
  omega
theorem onto_len (g : GrpD) (d : RecD) (r : RegD) {N : Nat} (h : r.ps.length + r.os.length ≤ N) : (ontoD g d r).ps.length + (ontoD g d r).os.length ≤ N + (1 + d.ps.length) := by
  unfold ontoD
  split
  · have := withO_len r.os (d.r4, d.r5, d.r6, d.r7)
    show r.ps.length + (withO r.os (d.r4, d.r5, d.r6, d.r7)).length ≤ _
    omega
  · have := outW_len (s := g.s) (l := g.l) (c := g.c) (sh := g.sh) (zs := g.zs) (x := d.r3) (rt := r.t) (rq := r.q) (rv := r.v) (ps := r.ps) (os := r.os) (ct := d.r5) (cq := d.r6) (v := d.r7) (cs := d.ps) rfl
    simp only
    omega
/-- No shelf is longer than what was done to them all. -/
theorem shelves_sz (g : GrpD) (ds : List RecD) : ∀ k, k ≤ ds.length → ∀ i, (regOf (shelves g (ds.take k)) i).ps.length + (regOf (shelves g (ds.take k)) i).os.length ≤ totC (ds.take k) := by
  intro k
  induction k with
  | zero =>
    intro _ i
    have h : regOf (shelves g (ds.take 0)) i = zeroR := by
      unfold regOf shelves
      simp only [List.take_zero, List.foldl_nil, List.getD_eq_getElem?_getD, List.getElem?_replicate]
      split <;> rfl
    rw [h]
    exact Nat.zero_le _
  | succ k ih =>
    intro hk i
    rw [shelves_snoc g ds (by omega), totC_snoc ds (by omega)]
    unfold stepR
    by_cases hi : (ds[k]).r3.toNat = i
    · subst hi
      by_cases hl : (ds[k]).r3.toNat < (shelves g (ds.take k)).length
      · have h : regOf ((shelves g (ds.take k)).set (ds[k]).r3.toNat (ontoD g ds[k] (regOf (shelves g (ds.take k)) (ds[k]).r3.toNat))) (ds[k]).r3.toNat = ontoD g ds[k] (regOf (shelves g (ds.take k)) (ds[k]).r3.toNat) := by
          simp [regOf, hl]
        rw [h]
        exact onto_len g _ _ (ih (by omega) _)
      · rw [List.set_eq_of_length_le (by omega)]
        have := ih (by omega) (ds[k]).r3.toNat
        omega
    · have h : regOf ((shelves g (ds.take k)).set (ds[k]).r3.toNat (ontoD g ds[k] (regOf (shelves g (ds.take k)) (ds[k]).r3.toNat))) i = regOf (shelves g (ds.take k)) i := by
        simp [regOf, hi]
      rw [h]
      have := ih (by omega) i
      omega

end Go.Proofs.YtjdepjpjjgkmbaaGreat

/- The laws' helpers over lists of records: the size, held against what is left; conditions: the sizes. -/
namespace Go.Proofs.YtjdepjpjjgkmbaaGreat
open Go Go.RowKit

theorem totC_rest (ds : List RecD) (k : Nat) : totC (ds.take k) + (ds.length - k) ≤ totC ds := by
  have h : totC (ds.take k) + totC (ds.drop k) = totC ds := by
    unfold totC
    rw [← List.sum_append, ← List.map_append, List.take_append_drop]
  have key : ∀ l : List RecD, l.length ≤ totC l := by
    intro l
    unfold totC
    induction l with
    | nil => exact Nat.zero_le _
    | cons d l ih => simp only [List.map_cons, List.sum_cons, List.length_cons]; omega
  have h2 := key (ds.drop k)
  rw [List.length_drop] at h2
  omega
theorem totC_zero (ds : List RecD) : totC (ds.take 0) = 0 := by simp [totC]
theorem RecsF.atC {ds : List RecD} {w : World} {F : Nat → Prop} {b o n : Nat} (h : RecsF ds w F (some ⟨b, o, none⟩) n) {k : Nat} (hk : k < ds.length) (hn : 0 < n) : ∃ L m mc, RecAt w b (o + k * 9) ds[k] (.slice L m mc) ∧ AtC ds[k] w F (.agg #[.int .i64 (ds[k]).r1, .int .i64 (ds[k]).r2, .int .i64 (ds[k]).r3, .int .i64 (ds[k]).r4, .int .i64 (ds[k]).r5, .int .i64 (ds[k]).r6, .int .i64 (ds[k]).r7, .slice L m mc, .int .i64 (ds[k]).r8]) := by
  obtain ⟨b', o', hA, -, -, hc⟩ := h.2 hn
  injection hA with hA
  injection hA with e1 e2
  subst e1 e2
  obtain ⟨L, m, mc, h1, h2, h3⟩ := hc k hk
  exact ⟨L, m, mc, h1, L, m, mc, rfl, h2, h3⟩

set_option maxRecDepth 100000 in
set_option maxHeartbeats 4000000 in
theorem sz_CS {ds : List RecD} {w : World} {F : Nat → Prop} {A : Option Addr} {n cap : Nat} {L : Int} (h : RecsF ds w F A n) (hm : n ≤ maxLen) (h0 : 0 ≤ L) (h1 : L ≤ 1048576) :
    Calls Tryz.prog 84 #[.slice A n cap, .int .i64 L] w fun e w' => Left L (totC ds) e ∧ Below w.heap.size w w' := by
  have HL := Lib.hid h.1
  have HH := Lib.hid h
  have HR := Lib.hid (totC_rest ds)
  have hw1 : IntKind.i64.wrap (L - (n : Int)) = L - (n : Int) := IntWalk.i64_in _ (by unfold maxLen at hm; omega)
  clear h
  go_enter Tryz.func84, Tryz.ntmps84
  by_cases hneg : L - (n : Int) < 0
  · go_wp2
    go_ret
    refine ⟨⟨-1, rfl, fun h => ?_, fun _ => by omega⟩, Below.refl _ _⟩
    have := HR.out 0
    have := HL.out
    omega
  · have hnn : n ≤ 1048576 := by omega
    go_wp2
    go_loopw [1, 5] (fun s i wr => ∃ k : Nat, k ≤ n ∧ i = .int .i64 k ∧ s = .int .i64 (L - n + k - totC (ds.take k)) ∧ totC (ds.take k) + n ≤ L + k ∧ Below w.heap.size w wr) (fun _ i _ => n - (intOf i).toNat)
    case atStart => exact ⟨0, Nat.zero_le _, rfl, by rw [totC_zero]; simp, by rw [totC_zero]; omega, Below.refl _ _⟩
    case round =>
      obtain ⟨k, hk, rfl, rfl, hs, hb⟩ := hrel
      by_cases hlt : k < n
      · have hkd : k < ds.length := by have := HL.out; omega
        have hD := HH.out.later hb
        obtain ⟨b, o, hA, -, hbl, -⟩ := hD.2 (by omega)
        subst hA
        obtain ⟨L', m, mc, hrec, hat⟩ := hD.atC hkd (by omega)
        have hsn := totC_snoc ds hkd
        have hrr := HR.out (k + 1)
        obtain ⟨d, hd⟩ : ∃ d : RecD, ds[k] = d := ⟨_, rfl⟩
        rw [hd] at hrec hat hsn
        have hll := HL.out
        obtain ⟨c0, c1, c2, c3, c4, c5, c6, c7, c8⟩ := hrec
        have hltI : (k : Int) < (n : Int) := by omega
        have hkw : IntKind.i64.wrap ((k : Int) + 1) = (k : Int) + 1 := IntWalk.i64_in _ (by omega)
        have hsz : d.sz = d.ps.length := rfl
        have HAT := Lib.hid hat
        have HSN := Lib.hid hsn
        have HRR := Lib.hid hrr
        have HLL := Lib.hid hll
        have HSZ := Lib.hid hsz
        clear hd hD hat hsn hrr hll hsz
        by_cases hover : L - n + k - totC (ds.take k) < d.sz
        · go_wp2_with (go_at_call 146; refine (sz_C HAT.out (by omega) (by omega)).mono ?_; rintro e w2 ⟨⟨v, rfl, -, hv⟩, hb2⟩; replace hv := hv (by omega))
          go_ret
          refine ⟨⟨-1, rfl, fun h => ?_, fun _ => by omega⟩, bel_trans hb hb2⟩
          have := HRR.out
          have := HSN.out
          have := HLL.out
          have := HSZ.out
          omega
        · go_wp2_with (go_at_call 146; refine (sz_C HAT.out (by omega) (by omega)).mono ?_; rintro e w2 ⟨⟨v, rfl, hv, -⟩, hb2⟩; replace hv := hv (by omega); have hv0 : ¬ v < 0 := by omega)
          go_roundw
          case rel => exact ⟨k + 1, by omega, by go_num, by rw [HSN.out, HSZ.out]; congr 1; omega, by rw [HSN.out]; have := HSZ.out; omega, bel_trans hb hb2⟩
          case measure => simp [intOf]; omega
      · have hkn : k = n := by omega
        subst hkn
        have hfull : ds.take k = ds := List.take_of_length_le (by have := HL.out; omega)
        rw [hfull] at hs ⊢
        go_wp2
        go_ret
        exact ⟨⟨_, rfl, fun _ => by omega, fun h => by omega⟩, hb⟩
theorem atAfter {d : RecD} {w : World} {F : Nat → Prop} {v : Value} (h : AtC d w F v) (pw : After w) : AtC d pw.x F v := (keepsC d).later h pw.bel
set_option maxRecDepth 100000 in
set_option maxHeartbeats 4000000 in
theorem eq_CS {ds : List RecD} {w : World} {F F' : Nat → Prop} {A A' : Option Addr} {n cap cap' : Nat} (h : RecsF ds w F A n) (h' : RecsF ds w F' A' n) (hz : totC ds ≤ 1048576) :
    Calls Tryz.prog 88 #[.slice A n cap, .slice A' n cap'] w fun e w' => e = .returned (.bool true) ∧ Below w.heap.size w w' := by
  have HL := Lib.hid h.1
  have HH := Lib.hid h
  have HH' := Lib.hid h'
  have hnn : n ≤ 1048576 := by have := totC_rest ds 0; rw [totC_zero] at this; have := h.1; omega
  have HZ := Lib.hid (fun k (hk : k < ds.length) => totC_mem ds hk)
  clear h h'
  go_enter Tryz.func88, Tryz.ntmps88
  go_wp2
  go_loopw [5] (fun i wr => ∃ k : Nat, k ≤ n ∧ i = .int .i64 k ∧ Below w.heap.size w wr) (fun i _ => n - (intOf i).toNat)
  case atStart => exact ⟨0, Nat.zero_le _, rfl, Below.refl _ _⟩
  case round =>
    obtain ⟨k, hk, rfl, hb⟩ := hrel
    by_cases hlt : k < n
    · have hkd : k < ds.length := by have := HL.out; omega
      have hD := HH.out.later hb
      have hD' := HH'.out.later hb
      obtain ⟨b, o, hA, -, hbl, -⟩ := hD.2 (by omega)
      obtain ⟨b', o', hA', -, hbl', -⟩ := hD'.2 (by omega)
      subst hA hA'
      obtain ⟨L, m, mc, hrec, hat⟩ := hD.atC hkd (by omega)
      obtain ⟨L', m', mc', hrec', hat'⟩ := hD'.atC hkd (by omega)
      have hzz := HZ.out k hkd
      obtain ⟨d, hd⟩ : ∃ d : RecD, ds[k] = d := ⟨_, rfl⟩
      rw [hd] at hrec hat hrec' hat' hzz
      have hsz : d.sz ≤ 1048576 := by unfold RecD.sz; omega
      obtain ⟨c0, c1, c2, c3, c4, c5, c6, c7, c8⟩ := hrec
      obtain ⟨k0, k1, k2, k3, k4, k5, k6, k7, k8⟩ := hrec'
      have f0 := After.cell hbl c0
      have f1 := After.cell hbl c1
      have f2 := After.cell hbl c2
      have f3 := After.cell hbl c3
      have f4 := After.cell hbl c4
      have f5 := After.cell hbl c5
      have f6 := After.cell hbl c6
      have f7 := After.cell hbl c7
      have f8 := After.cell hbl c8
      have e0 := After.cell hbl' k0
      have e1 := After.cell hbl' k1
      have e2 := After.cell hbl' k2
      have e3 := After.cell hbl' k3
      have e4 := After.cell hbl' k4
      have e5 := After.cell hbl' k5
      have e6 := After.cell hbl' k6
      have e7 := After.cell hbl' k7
      have e8 := After.cell hbl' k8
      have hltI : (k : Int) < (n : Int) := by omega
      have hkw : IntKind.i64.wrap ((k : Int) + 1) = (k : Int) + 1 := IntWalk.i64_in _ (by omega)
      have HAT := Lib.hid hat
      have HAT' := Lib.hid hat'
      clear hd hD hD' hat hat' hzz
      go_upto_region 6 with fail
      refine wp_region_after (by kernel_rfl) (by kernel_rfl) ?_
      repeat (first | go_big_quiet_step ((go_at_call 148; exact after_of (eq_C (atAfter HAT.out _) (atAfter HAT'.out _) hsz))) | quiet_step ((go_at_call 148; exact after_of (eq_C (atAfter HAT.out _) (atAfter HAT'.out _) hsz))))
      refine wpQuiet_nil ?_
      intro pw
      clear f0 f1 f2 f3 f4 f5 f6 f7 f8 e0 e1 e2 e3 e4 e5 e6 e7 e8
      go_wp2
      go_roundw
      case rel => exact ⟨k + 1, by omega, by go_num, bel_trans hb pw.bel⟩
      case measure => simp [intOf]; omega
    · have hkn : k = n := by omega
      subst hkn
      go_wp2
      go_ret
      exact ⟨rfl, hb⟩
end Go.Proofs.YtjdepjpjjgkmbaaGreat

/- A block of records of one's own: each with its list in blocks of its own; made anew, written, read; no conditions. -/
namespace Go.Proofs.YtjdepjpjjgkmbaaGreat
open Go Go.RowKit

theorem turns_setCells9 (g : Nat) : ∀ (vs : List Value) (o : Nat) (w : World), Turns (· = g) w (w.setCells g o vs)
  | [], _, w => Turns.of_below (Below.refl _ _)
  | v :: vs, o, w => (turns_cell9 w g o v).trans (turns_setCells9 g vs (o + 1) _)
where
  turns_cell9 (w : World) (g o : Nat) (u : Value) : Turns (· = g) w (w.setCell ⟨g, o, none⟩ u) :=
    ⟨rfl, rfl, rfl, by rw [size_set]; exact Nat.le_refl _, fun i _ hne => Below.heap_setCell w ⟨g, o, none⟩ u i hne⟩
def zeroC : RecD := ⟨0, 0, 0, 0, 0, 0, 0, [], 0⟩
/-- The block g holds n records, D of them; the list of the one at place i lies in blocks of Fs i, apart from all others'. -/
structure RecsAt (w : World) (g n : Nat) (D : Nat → RecD) (Fs : Nat → Nat → Prop) : Prop where
  lt : g < w.heap.size
  fr : ∀ o, w.frozen? ⟨g, o, none⟩ = false
  row : ∀ i, i < n → ∃ u, w.rangeAt g (i * 9) ((D i).cells u).toList ∧ LieC (D i) w (Fs i) (.agg ((D i).cells u))
  apart : ∀ i, i < n → ∀ b, Fs i b → b ≠ g
  two : ∀ i j, i < n → j < n → i ≠ j → ∀ b, Fs i b → ¬ Fs j b
theorem RecsAt.turn {w w' : World} {g n : Nat} {D : Nat → RecD} {Fs : Nat → Nat → Prop} {T : Nat → Prop} (h : RecsAt w g n D Fs) (ht : Turns T w w') (hg : ¬ T g) (hF : ∀ i, i < n → ∀ b, Fs i b → ¬ T b) : RecsAt w' g n D Fs :=
  ⟨Nat.lt_of_lt_of_le h.lt ht.size, fun o => (ht.frozen h.lt hg o).trans (h.fr o), fun i hi => by
    obtain ⟨u, h1, h2⟩ := h.row i hi
    exact ⟨u, fun j v hv => (ht.cell h.lt hg _).trans (h1 j v hv), (keepsLC _).turn h2 ht (hF i hi)⟩, h.apart, h.two⟩
theorem RecsAt.later {w w' : World} {g n : Nat} {D : Nat → RecD} {Fs : Nat → Nat → Prop} (h : RecsAt w g n D Fs) (hb : Below w.heap.size w w') : RecsAt w' g n D Fs :=
  h.turn (T := fun _ => False) (Turns.of_below hb) (fun h => h) (fun _ _ _ _ h => h)
theorem cells_len (d : RecD) (u : Value) : (d.cells u).toList.length = 9 := rfl
theorem RecsAt.there {w : World} {g n : Nat} {D : Nat → RecD} {Fs : Nat → Nat → Prop} (h : RecsAt w g n D Fs) {i : Nat} (hi : i < n) : w.there g (i * 9) 9 := fun j hj => by
  obtain ⟨u, h1, -⟩ := h.row i hi
  exact ⟨h1.isSome j (by rw [cells_len]; exact hj), h.fr _⟩
def upD (D : Nat → RecD) (i : Nat) (d : RecD) : Nat → RecD := fun j => if j = i then d else D j
def upFs (Fs : Nat → Nat → Prop) (i : Nat) (F : Nat → Prop) : Nat → Nat → Prop := fun j => if j = i then F else Fs j
/-- One of them is written anew. -/
theorem RecsAt.put {w : World} {g n : Nat} {D : Nat → RecD} {Fs : Nat → Nat → Prop} (h : RecsAt w g n D Fs) {i : Nat} (hi : i < n) {d : RecD} {F : Nat → Prop} {u : Value} (hL : LieC d w F (.agg (d.cells u))) (hg : ∀ b, F b → b ≠ g) (ho : ∀ j, j < n → j ≠ i → ∀ b, F b → ¬ Fs j b) :
    RecsAt (w.setCells g (i * 9) (d.cells u).toList) g n (upD D i d) (upFs Fs i F) := by
  have ht := turns_setCells9 g (d.cells u).toList (i * 9) w
  refine ⟨Nat.lt_of_lt_of_le h.lt ht.size, fun o => (World.frozen?_setCells g _ _ _ _).trans (h.fr o), fun j hj => ?_, fun j hj b hb => ?_, fun j k hj hk hjk b hb hb2 => ?_⟩
  · by_cases e : j = i
    · subst e
      refine ⟨u, ?_, ?_⟩
      · simp only [upD, if_true]
        exact World.rangeAt_setCells_same w g _ _ (h.there hi)
      · simp only [upD, upFs, if_true]
        exact (keepsLC _).turn hL ht hg
    · obtain ⟨u', h1, h2⟩ := h.row j hj
      refine ⟨u', ?_, ?_⟩
      · simp only [upD, if_neg e]
        exact World.rangeAt_setCells_apart h1 g _ _ (.inr (by simp only [cells_len]; omega))
      · simp only [upD, upFs, if_neg e]
        exact (keepsLC _).turn h2 ht (h.apart j hj)
  · unfold upFs at hb
    split at hb
    · exact hg b hb
    · exact h.apart j hj b hb
  · unfold upFs at hb hb2
    split at hb <;> split at hb2
    · omega
    · exact ho k hk (by assumption) b hb hb2
    · exact ho j hj (by assumption) b hb2 hb
    · exact h.two j k hj hk hjk b hb hb2
/-- Records of one's own behind lo: no list lies below it. -/
def RecsOwn (w : World) (g lo n : Nat) (D : Nat → RecD) : Prop :=
  lo ≤ g ∧ ∃ Fs, RecsAt w g n D Fs ∧ ∀ i, i < n → ∀ b, Fs i b → lo ≤ b ∧ b < w.heap.size
theorem RecsOwn.turn {w w' : World} {g lo n : Nat} {D : Nat → RecD} {T : Nat → Prop} (h : RecsOwn w g lo n D) (ht : Turns T w w') (hT : ∀ b, T b → b < lo) : RecsOwn w' g lo n D := by
  obtain ⟨hg, Fs, hR, hF⟩ := h
  exact ⟨hg, Fs, hR.turn ht (fun h => by have := hT _ h; omega) (fun i hi b hb hb2 => by have := hT b hb2; have := (hF i hi b hb).1; omega), fun i hi b hb => ⟨(hF i hi b hb).1, Nat.lt_of_lt_of_le (hF i hi b hb).2 ht.size⟩⟩
theorem RecsOwn.later {w w' : World} {g lo n : Nat} {D : Nat → RecD} (h : RecsOwn w g lo n D) (hb : Below w.heap.size w w') : RecsOwn w' g lo n D := h.turn (T := fun _ => False) (Turns.of_below hb) (fun _ h => h.elim)
/-- One of them is written anew, with a new list. -/
theorem RecsOwn.put {w w1 : World} {g lo n : Nat} {D : Nat → RecD} (h : RecsOwn w g lo n D) (hb : Below w.heap.size w w1) {i : Nat} (hi : i < n) {d : RecD} {u : Value} (hL : LieC d w1 (Iv w.heap.size w1.heap.size) (.agg (d.cells u))) :
    RecsOwn (w1.setCells g (i * 9) (d.cells u).toList) g lo n (upD D i d) := by
  obtain ⟨hg, Fs, hR, hF⟩ := h
  have hlt := hR.lt
  have hs := (turns_setCells9 g (d.cells u).toList (i * 9) w1).size
  refine ⟨hg, _, (hR.later hb).put hi hL (fun b hb1 => by have := hb1.1; omega) (fun j hj _ b hb1 hb2 => by have := hb1.1; have := (hF j hj b hb2).2; omega), fun j hj b hb1 => ?_⟩
  unfold upFs at hb1
  split at hb1
  · exact ⟨by have := hb1.1; omega, Nat.lt_of_lt_of_le hb1.2 hs⟩
  · have := hF j hj b hb1
    have := hb.size
    omega
theorem RecsOwn.low {w : World} {g lo lo' n : Nat} {D : Nat → RecD} (h : RecsOwn w g lo n D) (hl : lo' ≤ lo) : RecsOwn w g lo' n D := by
  obtain ⟨hg, Fs, hR, hF⟩ := h
  exact ⟨by omega, Fs, hR, fun i hi b hb => ⟨by have := (hF i hi b hb).1; omega, (hF i hi b hb).2⟩⟩
/-- Records that nothing was written to yet. -/
theorem recs_new (w : World) (t : TypeId) (n : Nat) : RecsOwn (w.alloc (.cells (madeCells (zeroC.cells (.slice none 0 0)) (n * 9)) t)) w.heap.size w.heap.size n (fun _ => zeroC) := by
  have hb := Box.new w t (madeCells (zeroC.cells (.slice none 0 0)) (n * 9))
  refine ⟨Nat.le_refl _, fun _ _ => False, ⟨hb.lt, hb.frozen, fun i hi => ⟨.slice none 0 0, fun j v hv => ?_, ⟨_, rfl, .inl ⟨rfl, rfl⟩⟩⟩, fun _ _ _ h => h.elim, fun _ _ _ _ _ _ h => h.elim⟩, fun _ _ _ h => h.elim⟩
  have hj : j < 9 := by
    have := (List.getElem?_eq_some_iff.1 hv).1
    rwa [cells_len] at this
  refine (hb.cell _).trans ?_
  rw [← hv]
  have e : (i * 9 + j) % 9 = j := by omega
  have hl : i * 9 + j < n * 9 := by omega
  have h9 : (zeroC.cells (.slice none 0 0)).size = 9 := rfl
  simp [madeCells, hl, h9, e, hj]
end Go.Proofs.YtjdepjpjjgkmbaaGreat

/- The laws' copy of a list of records; conditions: the sizes. -/
namespace Go.Proofs.YtjdepjpjjgkmbaaGreat
open Go Go.RowKit

theorem Tryz.infoRec9 : (Tryz.prog.info? 46).map (fun i => (i.zero, i.size, i.bytes)) = some (some (.agg (zeroC.cells (.slice none 0 0))), 9, 88) := by kernel_rfl
theorem run_make_recs {P : Program} (t e : TypeId) (ht : P.underlying t = some (.slice e)) (hinfo : (P.info? e).map (fun i => (i.zero, i.size, i.bytes)) = some (some (.agg (zeroC.cells (.slice none 0 0))), 9, 88))
    (n : Nat) (hn : n ≤ 1048576) (w : World) :
    (Instr.makeSlice t (.int .i64 (n : Int)) (.int .i64 (n : Int))).run P w = .ok (.slice (some ⟨w.heap.size, 0, none⟩) n n) (w.alloc (.cells (madeCells (zeroC.cells (.slice none 0 0)) (n * 9)) e)) := by
  obtain ⟨i, hi, hzz⟩ := Option.map_eq_some_iff.1 hinfo
  simp only [Prod.mk.injEq] at hzz
  obtain ⟨hz, hs, hb⟩ := hzz
  have hr := run_make (P := P) w t e i _ ht hi hz .i64 .i64 n n (by omega) (Int.le_refl _) (by rw [hb]; omega) (by omega)
  simp only [Int.toNat_natCast, hs] at hr
  exact hr
/-- The first k of them, and nothing behind. -/
def recsK (ds : List RecD) (k : Nat) : Nat → RecD := fun j => if j < k then ds.getD j zeroC else zeroC
theorem recsK_zero (ds : List RecD) : recsK ds 0 = fun _ => zeroC := by
  funext j
  simp [recsK]
theorem recsK_step (ds : List RecD) {k : Nat} (h : k < ds.length) : upD (recsK ds k) k ds[k] = recsK ds (k + 1) := by
  funext j
  unfold upD recsK
  by_cases e : j = k
  · subst e
    rw [if_pos rfl, if_pos (by omega), List.getD_eq_getElem?_getD, List.getElem?_eq_getElem h]
    rfl
  · rw [if_neg e]
    by_cases e2 : j < k
    · rw [if_pos e2, if_pos (by omega)]
    · rw [if_neg e2, if_neg (by omega)]
theorem RecsOwn.there {w : World} {g lo n : Nat} {D : Nat → RecD} (h : RecsOwn w g lo n D) {i : Nat} (hi : i < n) : w.there g (i * 9) 9 := by
  obtain ⟨_, Fs, hR, _⟩ := h
  exact hR.there hi
theorem one_cells {d : RecD} {w : World} {F : Nat → Prop} {u : Value} (h : OwnP w F u d.ps) : (d.cells u).all (·.oneCell') = true := by
  rcases h with ⟨rfl, -⟩ | ⟨g, cap, -, rfl, -⟩ <;> simp [RecD.cells, Value.oneCell']
theorem grown_setCells9 {w w1 : World} (h : Below w.heap.size w w1) (g o : Nat) (vs : List Value) : w.grownBy (w1.setCells g o vs) (some g) := by
  have t := turns_setCells9 g vs o w1
  exact ⟨t.os.trans h.os, t.tape.trans h.tape, t.output.trans h.output, Nat.le_trans h.size t.size, fun i hi hne => (t.block i (Nat.lt_of_lt_of_le hi h.size) (fun e => hne (by rw [e]))).trans (h.block i hi)⟩

set_option maxRecDepth 100000 in
set_option maxHeartbeats 4000000 in
theorem to_CS {ds : List RecD} {w : World} {F : Nat → Prop} {A : Option Addr} {n cap : Nat} (h : RecsF ds w F A n) (hF : ∀ b, F b → b < w.heap.size) (hz : totC ds ≤ 1048576) :
    Calls Tryz.prog 86 #[.slice A n cap] w fun e w' => ∃ G, e = .returned (.slice (some ⟨G, 0, none⟩) n n) ∧ RecsOwn w' G w.heap.size n (recsK ds n) ∧ Below w.heap.size w w' := by
  have HL := Lib.hid h.1
  have hnn : n ≤ 1048576 := by have := totC_rest ds 0; rw [totC_zero] at this; have := h.1; omega
  have HZ := Lib.hid (fun k (hk : k < ds.length) => totC_mem ds hk)
  have HBW := Lib.hid hF
  have hmk := fun W => run_make_recs (P := Tryz.prog) 27 46 Tryz.underlying27 Tryz.infoRec9 n hnn W
  have K0 := recs_new w 46 n
  have hb1 := bel_alloc w (.cells (madeCells (zeroC.cells (.slice none 0 0)) (n * 9)) 46)
  have HH := Lib.hid (h.later hb1)
  clear h
  go_enter Tryz.func86, Tryz.ntmps86
  go_upto_region 2 with fail
  clear hmk
  generalize (w.alloc (.cells (madeCells (zeroC.cells (.slice none 0 0)) (n * 9)) 46)) = w2 at K0 hb1 HH ⊢
  have hGl : w.heap.size < w2.heap.size := by
    obtain ⟨_, Fs, hR, _⟩ := K0
    exact hR.lt
  go_wp2
  go_loopw [4] (fun i wr => ∃ k : Nat, k ≤ n ∧ i = .int .i64 k ∧ RecsOwn wr w.heap.size w.heap.size n (recsK ds k) ∧ w2.grownBy wr (some w.heap.size)) (fun i _ => n - (intOf i).toNat)
  case atStart => exact ⟨0, Nat.zero_le _, rfl, by rw [recsK_zero]; exact K0, grown_refl _ _⟩
  case round =>
    clear K0
    obtain ⟨k, hk, rfl, K, hgw⟩ := hrel
    by_cases hlt : k < n
    · have hkd : k < ds.length := by have := HL.out; omega
      have hD := HH.out
      obtain ⟨b, o, hA, hbF, hbl, -⟩ := hD.2 (by omega)
      subst hA
      have hbw : b < w.heap.size := HBW.out b hbF
      obtain ⟨L, m, mc, hrec, hat⟩ := hD.atC hkd (by omega)
      have hzz := HZ.out k hkd
      have hst := recsK_step ds hkd
      obtain ⟨d, hd⟩ : ∃ d : RecD, ds[k] = d := ⟨_, rfl⟩
      rw [hd] at hrec hat hzz hst
      have hsz : d.sz ≤ 1048576 := by unfold RecD.sz; omega
      have hT : ∀ j x, w2.cell? ⟨b, j, none⟩ = some x → wr.cell? ⟨b, j, none⟩ = some x := fun j x h => (hgw.cell_far ⟨b, j, none⟩ hbl (fun e => by injection e with e; have e2 : b = w.heap.size := e; omega)).trans h
      obtain ⟨c0, c1, c2, c3, c4, c5, c6, c7, c8⟩ := hrec
      replace c0 := hT _ _ c0
      replace c1 := hT _ _ c1
      replace c2 := hT _ _ c2
      replace c3 := hT _ _ c3
      replace c4 := hT _ _ c4
      replace c5 := hT _ _ c5
      replace c6 := hT _ _ c6
      replace c7 := hT _ _ c7
      replace c8 := hT _ _ c8
      have HAT := Lib.hid ((keepsC d).turn hat (Turns.of_grown hgw) (fun b hb e => by have := HBW.out b hb; have e2 : b = w.heap.size := e; omega))
      have HST := Lib.hid hst
      have hltI : (k : Int) < (n : Int) := by omega
      have hkw : IntKind.i64.wrap ((k : Int) + 1) = (k : Int) + 1 := IntWalk.i64_in _ (by omega)
      clear hd hD hat hzz hst hT
      go_wp2_with (first | (go_at_call 147; refine (to_C HAT.out hsz).mono ?_; rintro e w3 ⟨C, rfl, hL, hb3⟩; obtain ⟨u, hC, hO⟩ := hL; injection hC with hC; subst hC; have HTH := Lib.hid ((K.later hb3).there hlt); have HO := Lib.hid hO; clear hO) | (refine wpList_store_mid rfl 46 _ _ rfl w.heap.size (k * 9) (d.cells u) rfl rfl HTH.out (by kernel_rfl) (one_cells HO.out) ?_; have KN := Lib.hid (RecsOwn.put K hb3 hlt (d := d) (u := u) ⟨u, rfl, HO.out⟩); have GN := Lib.hid (grown_trans hgw (grown_setCells9 hb3 w.heap.size (k * 9) (d.cells u).toList)); rw [HST.out] at KN; generalize (World.setCells w3 _ _ _) = w4 at KN GN ⊢; try simp only [Act.put]))
      go_roundw
      case rel => exact ⟨k + 1, by omega, by go_num, KN.out, GN.out⟩
      case measure => simp [intOf]; omega
    · have hkn : k = n := by omega
      subst hkn
      go_wp2
      go_ret
      exact ⟨w.heap.size, rfl, K, bel_grown hb1 hgw (by omega)⟩
end Go.Proofs.YtjdepjpjjgkmbaaGreat

/- Records of one's own, read as a list; conditions: none. -/
namespace Go.Proofs.YtjdepjpjjgkmbaaGreat
open Go Go.RowKit

theorem RecsOwn.reads {w : World} {G lo n : Nat} {ds : List RecD} (h : RecsOwn w G lo n (recsK ds n)) (hn : ds.length = n) : RecsF ds w (fun b => b < w.heap.size) (some ⟨G, 0, none⟩) n := by
  obtain ⟨_, Fs, hR, hF⟩ := h
  refine ⟨hn, fun _ => ⟨G, 0, rfl, hR.lt, hR.lt, fun i hi => ?_⟩⟩
  have hi' : i < n := by omega
  obtain ⟨u, h1, h2⟩ := hR.row i hi'
  have hd : recsK ds n i = ds[i] := by
    unfold recsK
    rw [if_pos hi', List.getD_eq_getElem?_getD, List.getElem?_eq_getElem hi]
    rfl
  rw [hd] at h1 h2
  obtain ⟨L, m, mc, e, hm, hp⟩ := ((keepsC _).sub h2.at (fun b hb => (hF i hi' b hb).2) : AtC ds[i] w (fun b => b < w.heap.size) _)
  injection e with e
  have hu : u = .slice L m mc := by simpa [RecD.cells] using e
  subst hu
  refine ⟨L, m, mc, ?_, hm, hp⟩
  rw [Nat.zero_add]
  exact ⟨h1 0 _ rfl, h1 1 _ rfl, h1 2 _ rfl, h1 3 _ rfl, h1 4 _ rfl, h1 5 _ rfl, h1 6 _ rfl, h1 7 _ rfl, h1 8 _ rfl⟩
end Go.Proofs.YtjdepjpjjgkmbaaGreat

/- A journal as data: two lists of records; read, and of one's own; no conditions. -/
namespace Go.Proofs.YtjdepjpjjgkmbaaGreat
open Go Go.RowKit

structure JourD where
  ks : List RecD
  ls : List RecD
def JourD.sz (d : JourD) : Nat := totC d.ks + totC d.ls
/-- A value reads as a journal, through blocks of F alone. -/
def AtJ (d : JourD) (w : World) (F : Nat → Prop) (v : Value) : Prop :=
  ∃ (A : Option Addr) (n c : Nat) (A' : Option Addr) (n' c' : Nat), v = .agg #[.slice A n c, .slice A' n' c'] ∧ n ≤ maxLen ∧ n' ≤ maxLen ∧ RecsF d.ks w F A n ∧ RecsF d.ls w F A' n'
theorem keepsJ (d : JourD) : Keeps (AtJ d) :=
  ⟨fun ⟨A, n, c, A', n', c', e, h1, h2, h3, h4⟩ ht hd => ⟨A, n, c, A', n', c', e, h1, h2, h3.turn ht hd, h4.turn ht hd⟩, fun ⟨A, n, c, A', n', c', e, h1, h2, h3, h4⟩ hs => ⟨A, n, c, A', n', c', e, h1, h2, h3.sub hs, h4.sub hs⟩⟩
theorem sizeJ {d : JourD} {w : World} {F : Nat → Prop} {C : Array Value} (h : AtJ d w F (.agg C)) : (Tryz.prog.info? 50).map (·.size) = some C.size ∧ (Tryz.prog.info? 29).map (·.size) = some C.size := by
  obtain ⟨A, n, c, A', n', c', e, _⟩ := h
  injection e with e
  subst e
  exact ⟨by kernel_rfl, by kernel_rfl⟩
theorem oneJ {d : JourD} {w : World} {F : Nat → Prop} {C : Array Value} (h : AtJ d w F (.agg C)) : C.size = 2 ∧ C.all (·.oneCell') = true := by
  obtain ⟨A, n, c, A', n', c', e, _⟩ := h
  injection e with e
  subst e
  exact ⟨rfl, by simp [Value.oneCell']⟩
theorem RecsF.lt {ds : List RecD} {w : World} {F : Nat → Prop} {A : Option Addr} {n : Nat} (h : RecsF ds w F A n) : RecsF ds w (fun b => F b ∧ b < w.heap.size) A n := by
  refine ⟨h.1, fun hn => ?_⟩
  obtain ⟨b, o, hA, hF, hb, hc⟩ := h.2 hn
  refine ⟨b, o, hA, ⟨hF, hb⟩, hb, fun i hi => ?_⟩
  obtain ⟨L, m, mc, h1, h2, h3⟩ := hc i hi
  refine ⟨L, m, mc, h1, h2, h3.1, fun hm b' o' e => ⟨h3.2 hm b' o' e, ?_⟩⟩
  obtain ⟨b2, o2, e2, hb2, _⟩ := h3.1.2 hm
  rw [e] at e2
  injection e2 with e2
  injection e2 with e2
  subst e2
  exact hb2
/-- A list of records of one's own: nil, or a block, and the records' lists; all in blocks of F. -/
def OwnCS (ds : List RecD) (w : World) (F : Nat → Prop) (v : Value) : Prop :=
  (v = .slice none 0 0 ∧ ds = []) ∨ ∃ (G c : Nat) (Fs : Nat → Nat → Prop), F G ∧ v = .slice (some ⟨G, 0, none⟩) ds.length c ∧ ds.length ≤ c ∧ c ≤ maxLen ∧ RecsAt w G ds.length (recsK ds ds.length) Fs ∧ ∀ i, i < ds.length → ∀ b, Fs i b → F b ∧ b < w.heap.size
theorem OwnCS.turn {ds : List RecD} {w w' : World} {F T : Nat → Prop} {v : Value} (h : OwnCS ds w F v) (ht : Turns T w w') (hd : ∀ b, F b → ¬ T b) : OwnCS ds w' F v := by
  rcases h with h | ⟨G, c, Fs, hG, e, h1, h2, hR, hF⟩
  · exact .inl h
  · exact .inr ⟨G, c, Fs, hG, e, h1, h2, hR.turn ht (hd G hG) (fun i hi b hb => hd b (hF i hi b hb).1), fun i hi b hb => ⟨(hF i hi b hb).1, Nat.lt_of_lt_of_le (hF i hi b hb).2 ht.size⟩⟩
theorem OwnCS.later {ds : List RecD} {w w' : World} {F : Nat → Prop} {v : Value} (h : OwnCS ds w F v) (hb : Below w.heap.size w w') : OwnCS ds w' F v := h.turn (T := fun _ => False) (Turns.of_below hb) (fun _ _ h => h)
theorem OwnCS.sub {ds : List RecD} {w : World} {F F' : Nat → Prop} {v : Value} (h : OwnCS ds w F v) (hs : ∀ b, F b → F' b) : OwnCS ds w F' v := by
  rcases h with h | ⟨G, c, Fs, hG, e, h1, h2, hR, hF⟩
  · exact .inl h
  · exact .inr ⟨G, c, Fs, hs G hG, e, h1, h2, hR, fun i hi b hb => ⟨hs b (hF i hi b hb).1, (hF i hi b hb).2⟩⟩
theorem OwnCS.lt {ds : List RecD} {w : World} {F : Nat → Prop} {v : Value} (h : OwnCS ds w F v) : OwnCS ds w (fun b => F b ∧ b < w.heap.size) v := by
  rcases h with h | ⟨G, c, Fs, hG, e, h1, h2, hR, hF⟩
  · exact .inl h
  · exact .inr ⟨G, c, Fs, ⟨hG, hR.lt⟩, e, h1, h2, hR, fun i hi b hb => ⟨hF i hi b hb, (hF i hi b hb).2⟩⟩
theorem recsK_at {ds : List RecD} {n i : Nat} (hn : ds.length = n) (h : i < ds.length) : recsK ds n i = ds[i] := by
  unfold recsK
  rw [if_pos (by omega), List.getD_eq_getElem?_getD, List.getElem?_eq_getElem h]
  rfl
/-- One's own list, read. -/
theorem OwnCS.reads {ds : List RecD} {w : World} {F : Nat → Prop} {v : Value} (h : OwnCS ds w F v) : ∃ A c, v = .slice A ds.length c ∧ RecsF ds w F A ds.length := by
  rcases h with ⟨rfl, rfl⟩ | ⟨G, c, Fs, hG, e, h1, h2, hR, hF⟩
  · exact ⟨none, 0, rfl, rfl, fun hn => absurd hn (Nat.lt_irrefl _)⟩
  · refine ⟨_, c, e, rfl, fun _ => ⟨G, 0, rfl, hG, hR.lt, fun i hi => ?_⟩⟩
    obtain ⟨u, g1, g2⟩ := hR.row i hi
    rw [recsK_at rfl hi] at g1 g2
    obtain ⟨L, m, mc, e, hm, hp⟩ := ((keepsC _).sub g2.at (fun b hb => (hF i hi b hb).1) : AtC ds[i] w F _)
    injection e with e
    have hu : u = .slice L m mc := by simpa [RecD.cells] using e
    subst hu
    refine ⟨L, m, mc, ?_, hm, hp⟩
    rw [Nat.zero_add]
    exact ⟨g1 0 _ rfl, g1 1 _ rfl, g1 2 _ rfl, g1 3 _ rfl, g1 4 _ rfl, g1 5 _ rfl, g1 6 _ rfl, g1 7 _ rfl, g1 8 _ rfl⟩
theorem OwnCS.len {ds : List RecD} {w : World} {F : Nat → Prop} {v : Value} (h : OwnCS ds w F v) : ds.length ≤ maxLen := by
  rcases h with ⟨rfl, rfl⟩ | ⟨G, c, Fs, hG, e, h1, h2, hR, hF⟩
  · exact Nat.zero_le _
  · omega
theorem RecsOwn.cs {w : World} {G lo n c : Nat} {ds : List RecD} (h : RecsOwn w G lo n (recsK ds n)) (hn : ds.length = n) (hc : n ≤ c) (hm : c ≤ maxLen) : OwnCS ds w (Iv lo w.heap.size) (.slice (some ⟨G, 0, none⟩) n c) := by
  subst hn
  obtain ⟨hg, Fs, hR, hF⟩ := h
  exact .inr ⟨G, c, Fs, ⟨hg, hR.lt⟩, rfl, hc, hm, hR, fun i hi b hb => ⟨hF i hi b hb, (hF i hi b hb).2⟩⟩
/-- A journal of one's own: its two lists apart. -/
def LieJ (d : JourD) (w : World) (F : Nat → Prop) (v : Value) : Prop :=
  ∃ (u u' : Value) (F1 F2 : Nat → Prop), v = .agg #[u, u'] ∧ OwnCS d.ks w F1 u ∧ OwnCS d.ls w F2 u' ∧ (∀ b, F1 b → F b) ∧ (∀ b, F2 b → F b) ∧ ∀ b, F1 b → ¬ F2 b
theorem keepsLJ (d : JourD) : Keeps (LieJ d) :=
  ⟨fun ⟨u, u', F1, F2, e, h1, h2, s1, s2, ha⟩ ht hd => ⟨u, u', F1, F2, e, h1.turn ht (fun b hb => hd b (s1 b hb)), h2.turn ht (fun b hb => hd b (s2 b hb)), s1, s2, ha⟩, fun ⟨u, u', F1, F2, e, h1, h2, s1, s2, ha⟩ hs => ⟨u, u', F1, F2, e, h1, h2, fun b hb => hs b (s1 b hb), fun b hb => hs b (s2 b hb), ha⟩⟩
theorem LieJ.at {d : JourD} {w : World} {F : Nat → Prop} {v : Value} (h : LieJ d w F v) : AtJ d w F v := by
  obtain ⟨u, u', F1, F2, rfl, h1, h2, s1, s2, -⟩ := h
  have l1 := h1.len
  have l2 := h2.len
  obtain ⟨A, c, rfl, r1⟩ := h1.reads
  obtain ⟨A', c', rfl, r2⟩ := h2.reads
  exact ⟨A, _, c, A', _, c', rfl, l1, l2, r1.sub s1, r2.sub s2⟩
end Go.Proofs.YtjdepjpjjgkmbaaGreat

/- Lists of records as cells: a row of nine cells a record; a list somewhere, read; conditions: none. -/
namespace Go.Proofs.YtjdepjpjjgkmbaaGreat
open Go Go.RowKit

/-- The cells of records, each with its list. -/
def flatC (ms : List (RecD × Value)) : List Value := ms.flatMap fun p => (p.1.cells p.2).toList
theorem flatC_len (ms : List (RecD × Value)) : (flatC ms).length = ms.length * 9 := by
  induction ms with
  | nil => rfl
  | cons p ms ih =>
    have e : flatC (p :: ms) = (p.1.cells p.2).toList ++ flatC ms := rfl
    rw [e, List.length_append, ih, List.length_cons, cells_len]
    omega
theorem flatC_app (a b : List (RecD × Value)) : flatC (a ++ b) = flatC a ++ flatC b := by simp [flatC]
theorem flatC_at {ms : List (RecD × Value)} {i : Nat} (h : i < ms.length) {j : Nat} (hj : j < 9) : (flatC ms)[i * 9 + j]? = ((ms[i]).1.cells (ms[i]).2).toList[j]? := by
  induction ms generalizing i with
  | nil => simp at h
  | cons p ms ih =>
    have e : flatC (p :: ms) = (p.1.cells p.2).toList ++ flatC ms := rfl
    rw [e]
    rcases i with _ | i
    · rw [List.getElem?_append_left (by rw [cells_len]; omega)]
      simp
    · rw [List.getElem?_append_right (by rw [cells_len]; omega), cells_len, show (i + 1) * 9 + j - 9 = i * 9 + j by omega]
      exact ih (by simpa using h)
theorem flatC_one {ms : List (RecD × Value)} (h : ∀ p ∈ ms, p.2.oneCell' = true) : ∀ u ∈ flatC ms, u.oneCell' = true := by
  intro u hu
  unfold flatC at hu
  rw [List.mem_flatMap] at hu
  obtain ⟨p, hp, hu⟩ := hu
  have h2 := h p hp
  simp only [RecD.cells, List.mem_cons, List.mem_nil_iff, or_false] at hu
  rcases hu with rfl | rfl | rfl | rfl | rfl | rfl | rfl | rfl | rfl
  all_goals first | rfl | exact h2
/-- A list of pairs somewhere: nil, or at an address, in a block of F. -/
def SlcF (w : World) (F : Nat → Prop) (v : Value) (ps : List (Int × Int)) : Prop :=
  (v = .slice none 0 0 ∧ ps = []) ∨ ∃ b o n cap, v = .slice (some ⟨b, o, none⟩) n cap ∧ n ≤ maxLen ∧ PairsF w F (some ⟨b, o, none⟩) n ps
theorem SlcF.turn {T : Nat → Prop} {w w' : World} {F : Nat → Prop} {v : Value} {ps : List (Int × Int)} (h : SlcF w F v ps) (ht : Turns T w w') (hd : ∀ b, F b → ¬ T b) : SlcF w' F v ps := by
  rcases h with h | ⟨b, o, n, cap, e, hm, hp⟩
  · exact .inl h
  · exact .inr ⟨b, o, n, cap, e, hm, hp.turn ht hd⟩
theorem SlcF.sub {w : World} {F F' : Nat → Prop} {v : Value} {ps : List (Int × Int)} (h : SlcF w F v ps) (hs : ∀ b, F b → F' b) : SlcF w F' v ps := by
  rcases h with h | ⟨b, o, n, cap, e, hm, hp⟩
  · exact .inl h
  · exact .inr ⟨b, o, n, cap, e, hm, hp.1, fun hn b o e => hs b (hp.2 hn b o e)⟩
theorem SlcF.lt {w : World} {F : Nat → Prop} {v : Value} {ps : List (Int × Int)} (h : SlcF w F v ps) : SlcF w (fun b => F b ∧ b < w.heap.size) v ps := by
  rcases h with h | ⟨b, o, n, cap, e, hm, hp⟩
  · exact .inl h
  · refine .inr ⟨b, o, n, cap, e, hm, hp.1, fun hn b' o' e' => ⟨hp.2 hn b' o' e', ?_⟩⟩
    obtain ⟨b2, o2, e2, hb2, _⟩ := hp.1.2 hn
    rw [e'] at e2
    injection e2 with e2
    injection e2 with e2
    subst e2
    exact hb2
theorem SlcF.slc {w : World} {F : Nat → Prop} {v : Value} {ps : List (Int × Int)} (h : SlcF w F v ps) : Slc w v ps := by
  rcases h with h | ⟨b, o, n, cap, e, hm, hp⟩
  · exact .inl h
  · exact .inr ⟨b, o, n, cap, e, hp.1⟩
theorem SlcF.at {w : World} {F : Nat → Prop} {v : Value} {ps : List (Int × Int)} (h : SlcF w F v ps) : ∃ L m mc, v = .slice L m mc ∧ m ≤ maxLen ∧ PairsF w F L m ps := by
  rcases h with ⟨rfl, rfl⟩ | ⟨b, o, n, cap, e, hm, hp⟩
  · exact ⟨none, 0, 0, rfl, Nat.zero_le _, ⟨rfl, fun hn => absurd hn (by omega)⟩, fun hn => absurd hn (by omega)⟩
  · exact ⟨_, n, cap, e, hm, hp⟩
theorem OwnP.somewhere {w : World} {F : Nat → Prop} {v : Value} {ps : List (Int × Int)} (h : OwnP w F v ps) : SlcF w F v ps := by
  have h' := h
  rcases h with h | ⟨g, cap, hg, e, h0, h1, hh⟩
  · exact .inl h
  · obtain ⟨A, c, e', hm, hp, _⟩ := h'.at
    rw [e] at e'
    injection e' with e1 e2 e3
    subst e1
    exact .inr ⟨g, 0, _, cap, e, hm, hp⟩
/-- The records' lists can be read, through blocks of F. -/
def CertsF (w : World) (F : Nat → Prop) (ms : List (RecD × Value)) : Prop := ∀ p ∈ ms, SlcF w F p.2 p.1.ps
theorem CertsF.one {w : World} {F : Nat → Prop} {ms : List (RecD × Value)} (h : CertsF w F ms) : ∀ p ∈ ms, p.2.oneCell' = true := fun p hp => by
  obtain ⟨L, m, mc, e, -⟩ := (h p hp).at
  rw [e]
  rfl
theorem CertsF.turn {T : Nat → Prop} {w w' : World} {F : Nat → Prop} {ms : List (RecD × Value)} (h : CertsF w F ms) (ht : Turns T w w') (hd : ∀ b, F b → ¬ T b) : CertsF w' F ms := fun p hp => (h p hp).turn ht hd
theorem CertsF.later {w w' : World} {F : Nat → Prop} {ms : List (RecD × Value)} (h : CertsF w F ms) (hb : Below w.heap.size w w') : CertsF w' F ms := h.turn (T := fun _ => False) (Turns.of_below hb) (fun _ _ h => h)
theorem CertsF.sub {w : World} {F F' : Nat → Prop} {ms : List (RecD × Value)} (h : CertsF w F ms) (hs : ∀ b, F b → F' b) : CertsF w F' ms := fun p hp => (h p hp).sub hs
theorem CertsF.app {w : World} {F : Nat → Prop} {a b : List (RecD × Value)} (h : CertsF w F a) (h' : CertsF w F b) : CertsF w F (a ++ b) := fun p hp => by
  rcases List.mem_append.1 hp with hp | hp
  · exact h p hp
  · exact h' p hp
/-- Records' cells in a block, from a place on. -/
def CellsAt (w : World) (b o : Nat) (ms : List (RecD × Value)) : Prop := ∀ j x, (flatC ms)[j]? = some x → w.cell? ⟨b, o + j, none⟩ = some x
/-- A list of records somewhere: nil, or at an address. -/
def ListS (ds : List RecD) (w : World) (F : Nat → Prop) (v : Value) : Prop :=
  (v = .slice none 0 0 ∧ ds = []) ∨ ∃ b o c, v = .slice (some ⟨b, o, none⟩) ds.length c ∧ ds.length ≤ c ∧ c ≤ maxLen ∧ (0 < ds.length → F b ∧ b < w.heap.size) ∧ ∃ ms : List (RecD × Value), ms.map (·.1) = ds ∧ CertsF w F ms ∧ CellsAt w b o ms
theorem flatC_lt {ms : List (RecD × Value)} {j : Nat} {x : Value} (h : (flatC ms)[j]? = some x) : j < ms.length * 9 := by
  have := (List.getElem?_eq_some_iff.1 h).1
  rwa [flatC_len] at this
theorem ListS.turn {T : Nat → Prop} {ds : List RecD} {w w' : World} {F : Nat → Prop} {v : Value} (h : ListS ds w F v) (ht : Turns T w w') (hd : ∀ b, F b → ¬ T b) : ListS ds w' F v := by
  rcases h with h | ⟨b, o, c, e, h1, h2, h3, ms, hm, hc, hx⟩
  · exact .inl h
  · refine .inr ⟨b, o, c, e, h1, h2, fun hn => ⟨(h3 hn).1, Nat.lt_of_lt_of_le (h3 hn).2 ht.size⟩, ms, hm, hc.turn ht hd, fun j x hj => ?_⟩
    have hn : 0 < ds.length := by have := flatC_lt hj; rw [← hm, List.length_map]; omega
    exact (ht.cell (h3 hn).2 (hd b (h3 hn).1) _).trans (hx j x hj)
theorem ListS.later {ds : List RecD} {w w' : World} {F : Nat → Prop} {v : Value} (h : ListS ds w F v) (hb : Below w.heap.size w w') : ListS ds w' F v := h.turn (T := fun _ => False) (Turns.of_below hb) (fun _ _ h => h)
theorem ListS.sub {ds : List RecD} {w : World} {F F' : Nat → Prop} {v : Value} (h : ListS ds w F v) (hs : ∀ b, F b → F' b) : ListS ds w F' v := by
  rcases h with h | ⟨b, o, c, e, h1, h2, h3, ms, hm, hc, hx⟩
  · exact .inl h
  · exact .inr ⟨b, o, c, e, h1, h2, fun hn => ⟨hs b (h3 hn).1, (h3 hn).2⟩, ms, hm, hc.sub hs, hx⟩
theorem ListS.lt {ds : List RecD} {w : World} {F : Nat → Prop} {v : Value} (h : ListS ds w F v) : ListS ds w (fun b => F b ∧ b < w.heap.size) v := by
  rcases h with h | ⟨b, o, c, e, h1, h2, h3, ms, hm, hc, hx⟩
  · exact .inl h
  · exact .inr ⟨b, o, c, e, h1, h2, fun hn => ⟨h3 hn, (h3 hn).2⟩, ms, hm, fun p hp => (hc p hp).lt, hx⟩
theorem flatC_row {w : World} {b o : Nat} {ms : List (RecD × Value)} (hx : CellsAt w b o ms) {i : Nat} (hi : i < ms.length) : RecAt w b (o + i * 9) (ms[i]).1 (ms[i]).2 := by
  have C : ∀ j x, j < 9 → ((ms[i]).1.cells (ms[i]).2).toList[j]? = some x → w.cell? ⟨b, o + i * 9 + j, none⟩ = some x := fun j x hj h => by
    have h2 := hx (i * 9 + j) x (by rw [flatC_at hi hj]; exact h)
    rwa [← Nat.add_assoc] at h2
  exact ⟨C 0 _ (by omega) rfl, C 1 _ (by omega) rfl, C 2 _ (by omega) rfl, C 3 _ (by omega) rfl, C 4 _ (by omega) rfl, C 5 _ (by omega) rfl, C 6 _ (by omega) rfl, C 7 _ (by omega) rfl, C 8 _ (by omega) rfl⟩
theorem map_at {ms : List (RecD × Value)} {ds : List RecD} (hm : ms.map (·.1) = ds) {i : Nat} (h : i < ds.length) : ∃ h' : i < ms.length, (ms[i]).1 = ds[i] := by
  subst hm
  have h' : i < ms.length := by rwa [List.length_map] at h
  exact ⟨h', by simp⟩
theorem ListS.at {ds : List RecD} {w : World} {F : Nat → Prop} {v : Value} (h : ListS ds w F v) : ∃ A c, v = .slice A ds.length c ∧ ds.length ≤ maxLen ∧ RecsF ds w F A ds.length := by
  rcases h with ⟨rfl, rfl⟩ | ⟨b, o, c, e, h1, h2, h3, ms, hm, hc, hx⟩
  · exact ⟨none, 0, rfl, Nat.zero_le _, rfl, fun hn => absurd hn (Nat.lt_irrefl _)⟩
  · refine ⟨_, c, e, Nat.le_trans h1 h2, rfl, fun hn => ⟨b, o, rfl, (h3 hn).1, (h3 hn).2, fun i hi => ?_⟩⟩
    obtain ⟨hi', ed⟩ := map_at hm hi
    obtain ⟨L, m, mc, e1, h4, h5⟩ := (hc ms[i] (List.getElem_mem hi')).at
    have hr := flatC_row hx hi'
    rw [ed, e1] at hr
    rw [ed] at h5
    exact ⟨L, m, mc, hr, h4, h5⟩
theorem OwnCS.list {ds : List RecD} {w : World} {F : Nat → Prop} {v : Value} (h : OwnCS ds w F v) : ListS ds w F v := by
  rcases h with h | ⟨G, c, Fs, hG, e, h1, h2, hR, hF⟩
  · exact .inl h
  · have each : ∀ i, i < ds.length → ∃ u : Value, ∀ hi : i < ds.length, w.rangeAt G (i * 9) ((ds[i]).cells u).toList ∧ SlcF w F u (ds[i]).ps := by
      intro i hi
      obtain ⟨u, g1, g2⟩ := hR.row i hi
      rw [recsK_at rfl hi] at g1 g2
      obtain ⟨u', e', ho⟩ := g2
      injection e' with e'
      have hu : u = u' := by simpa [RecD.cells] using e'
      subst hu
      exact ⟨u, fun _ => ⟨g1, (ho.sub (fun b hb => (hF i hi b hb).1)).somewhere⟩⟩
    haveI : Inhabited Value := ⟨.slice none 0 0⟩
    obtain ⟨q, hq⟩ := Go.Deep.choose_lt each
    have hlen : (ds.mapIdx fun i d => (d, q i)).length = ds.length := by simp
    refine .inr ⟨G, 0, c, e, h1, h2, fun _ => ⟨hG, hR.lt⟩, ds.mapIdx fun i d => (d, q i), ?_, fun p hp => ?_, fun j x hj => ?_⟩
    · apply List.ext_getElem
      · simp
      · intro i h1 h2
        simp
    · obtain ⟨i, hi, rfl⟩ := List.mem_iff_getElem.1 hp
      rw [hlen] at hi
      simp only [List.getElem_mapIdx]
      exact (hq i hi hi).2
    · have hjl := flatC_lt hj
      rw [hlen] at hjl
      have hi : j / 9 < ds.length := by omega
      have hjm : j % 9 < 9 := by omega
      have e := flatC_at (ms := ds.mapIdx fun i d => (d, q i)) (i := j / 9) (by rw [hlen]; exact hi) hjm
      rw [show j / 9 * 9 + j % 9 = j by omega, hj] at e
      simp only [List.getElem_mapIdx] at e
      have h3 := (hq (j / 9) hi hi).1 (j % 9) x e.symm
      rwa [show j / 9 * 9 + j % 9 = 0 + j by omega] at h3
theorem ListS.src {ds : List RecD} {w : World} {F : Nat → Prop} {v : Value} (h : ListS ds w F v) : ∃ ms : List (RecD × Value), ms.map (·.1) = ds ∧ CertsF w F ms ∧ Src w v ds.length 9 (flatC ms) := by
  rcases h with ⟨rfl, rfl⟩ | ⟨b, o, c, e, h1, h2, h3, ms, hm, hc, hx⟩
  · exact ⟨[], rfl, fun p hp => absurd hp (List.not_mem_nil), .inl ⟨rfl, rfl, rfl⟩⟩
  · refine ⟨ms, hm, hc, .inr ⟨⟨b, o, none⟩, c, e, ?_, fun j x hj => ?_, flatC_one hc.one⟩⟩
    · rw [flatC_len, ← hm, List.length_map]
    · rw [show (⟨b, o, none⟩ : Addr).add j = ⟨b, o + j, none⟩ by unfold Addr.add; split <;> simp_all]
      exact hx j x hj
/-- A row of one's own, whose records' lists can be read, is a list. -/
theorem row_list {w : World} {base n : Nat} {t : TypeId} {v : Value} {ms : List (RecD × Value)} {F : Nat → Prop} (h : w.ownsRow base t 9 v n (flatC ms)) (hn : ms.length = n) (hc : CertsF w F ms) (hF : ∀ b, base ≤ b → b < w.heap.size → F b) : ListS (ms.map (·.1)) w F v := by
  have hlen : (ms.map (·.1)).length = n := by rw [List.length_map, hn]
  rcases h.2 with ⟨e, h0⟩ | ⟨g, cap, cur, e, hb, hg, h1, h2, -, -⟩
  · refine .inl ⟨e, List.eq_nil_of_length_eq_zero (by rw [hlen, h0])⟩
  · have hgl : g < w.heap.size := (h.lt g (by rw [e]; rfl)).2
    subst e
    refine .inr ⟨g, 0, cap, by rw [hlen], by rw [hlen]; exact h1, h2, fun _ => ⟨hF g hb hgl, hgl⟩, ms, rfl, hc, fun j x hj => ?_⟩
    have := flatC_lt hj
    rw [Nat.zero_add, h.cellAt j (by omega)]
    exact hj
theorem Src.later {w w' : World} {u : Value} {m size : Nat} {news : List Value} (h : Src w u m size news) (hb : Below w.heap.size w w') : Src w' u m size news := by
  rcases h with h | ⟨ad, c, e, h1, h2, h3⟩
  · exact .inl h
  · exact .inr ⟨ad, c, e, h1, fun j x hx => by
      have h4 := h2 j x hx
      exact (hb.cell (p := ad.add j) (block_lt_of_cell h4)).trans h4, h3⟩
end Go.Proofs.YtjdepjpjjgkmbaaGreat

/- The library's Grow and Concat over lists of records: two of them, one behind the other; conditions: the sizes. -/
namespace Go.Proofs.YtjdepjpjjgkmbaaGreat
open Go Go.RowKit

theorem Tryz.infoRecI : (Tryz.prog.info? 46).map (fun i => (i.zero, i.size, i.bytes)) = some (some (.agg #[.int .i64 0, .int .i64 0, .int .i64 0, .int .i64 0, .int .i64 0, .int .i64 0, .int .i64 0, .slice none 0 0, .int .i64 0]), 9, 88) := by kernel_rfl
set_option maxRecDepth 100000 in
set_option maxHeartbeats 1000000 in
theorem growRec_is (n : Nat) (w : World) (hn : n ≤ 4194304) :
    Calls Tryz.prog 179 #[.slice none 0 0, .int .i64 n] w fun e w' => ∃ v, e = .returned v ∧ w'.ownsRow w.heap.size 46 9 v 0 [] ∧ Below w.heap.size w w' := by
  obtain ⟨i0, hi0, hz0, hz1, hz2⟩ := info_parts Tryz.infoRecI
  rcases Nat.eq_zero_or_pos n with rfl | hpos
  · go_enter Tryz.func179, Tryz.ntmps179
    go_wp2
    go_ret
    exact ⟨_, rfl, World.ownsRow_nil w _ _ _, Below.refl _ _⟩
  · have hrz : ∀ ty, (Builtin.append_ #[27, 3] ty #[.slice none 0 0, .int .i64 (n : Int)]).run Tryz.prog w =
        .ok (.slice (some ⟨w.heap.size, 0, none⟩) n (grownCap w n 0 46)) (w.drew.alloc (.cells (#[] ++ Builtin.zeroCells (Value.agg #[.int .i64 0, .int .i64 0, .int .i64 0, .int .i64 0, .int .i64 0, .int .i64 0, .int .i64 0, .slice none 0 0, .int .i64 0]).cells n ++ Builtin.zeroCells (Value.agg #[.int .i64 0, .int .i64 0, .int .i64 0, .int .i64 0, .int .i64 0, .int .i64 0, .int .i64 0, .slice none 0 0, .int .i64 0]).cells (grownCap w n 0 46 - n)) 46)) := fun ty => by
      have h := Lib.run_append_grow_zeros w 27 3 ty 46 i0 _ .i64 .i64 Tryz.underlying27 Tryz.underlying3 hi0 hz0 none 0 0 [] (run_firstCells_none w.drew i0.size 0 0 0) n (by omega) (by omega) (by omega) (by omega)
        (by rw [hz2]; omega) (by rw [Nat.zero_add]; exact growslice_fits hpos (by rw [hz2]; omega))
      simpa using h
    have hGn := grownCap_ge w n 0 46
    have hGm := grownCap_le_maxLen w n 0 46 (by unfold maxLen; omega)
    generalize grownCap w n 0 46 = G at hrz hGn hGm
    have hG := Lib.hid hGm
    unfold maxLen at hGm
    have hp : (0 : Int) < (n : Int) := by omega
    go_enter Tryz.func179, Tryz.ntmps179
    go_wp2_with (at_builtin; refine Lib.wpList_append_run _ rfl _ _ _ _ rfl _ _ rfl rfl _ _ (hrz _) ?_)
    go_ret
    refine ⟨_, rfl, ?_, ((Below.refl _ _).drew).alloc (Nat.le_refl _) _⟩
    exact World.ownsRow_made w.drew _ G (Nat.le_refl _) hG.out (by simp [size_zeroCells]; show n * 9 + (G - n) * 9 = G * 9; omega)

set_option maxRecDepth 100000 in
set_option maxHeartbeats 1000000 in
theorem concatRec_is (q : Nat) (v v' : Value) (n n' : Nat) (xs xs' : List Value) (w : World) (hn : n + n' ≤ 2097152) (Q : Box w q 27 #[v, v']) (h : Src w v n 9 xs) (h' : Src w v' n' 9 xs') :
    Calls Tryz.prog 132 #[.slice (some ⟨q, 0, none⟩) 2 2] w fun e w' => ∃ u, e = .returned u ∧ w'.ownsRow w.heap.size 46 9 u (n + n') (xs ++ xs') ∧ Below w.heap.size w w' := by
  obtain ⟨i0, hi0, hz0, hz1, hz2⟩ := info_parts Tryz.infoRecI
  have hq := Q.lt
  obtain ⟨A, cap, hv⟩ : ∃ (A : Option Addr) (cap : Nat), v = .slice A n cap := by
    rcases h with ⟨rfl, rfl, _⟩ | ⟨ad, c, rfl, _⟩ <;> exact ⟨_, _, rfl⟩
  obtain ⟨A', cap', hv'⟩ : ∃ (A : Option Addr) (cap : Nat), v' = .slice A n' cap := by
    rcases h' with ⟨rfl, rfl, _⟩ | ⟨ad, c, rfl, _⟩ <;> exact ⟨_, _, rfl⟩
  subst hv hv'
  have HQ := Lib.hid Q
  have HS := Lib.hid h
  have HS' := Lib.hid h'
  clear Q h h'
  obtain ⟨s, hs, hs'⟩ : ∃ s : Nat, (n : Int) + (n' : Int) = (s : Int) ∧ n + n' = s := ⟨n + n', by omega, rfl⟩
  have hs' := Lib.hid hs'
  rename_i q1
  clear q1
  go_enter Tryz.func132, Tryz.ntmps132
  go_wp2_with fail
  go_loopw [3, 11] (fun sv iv wr => wr = w ∧ ((sv = .int .i64 0 ∧ iv = .int .i64 0) ∨ (sv = .int .i64 n ∧ iv = .int .i64 1) ∨ (sv = .int .i64 s ∧ iv = .int .i64 2))) (fun _ i _ => 2 - (intOf i).toNat)
  case atStart => exact ⟨rfl, .inl ⟨rfl, rfl⟩⟩
  case round =>
    obtain ⟨rfl, ⟨rfl, rfl⟩ | ⟨rfl, rfl⟩ | ⟨rfl, rfl⟩⟩ := hrel
    · obtain ⟨c0, c1⟩ := HQ.out.two
      go_wp2
      go_roundw
      case rel => exact ⟨trivial, .inr (.inl ⟨by go_num, rfl⟩)⟩
      case measure => simp [intOf]
    · obtain ⟨c0, c1⟩ := HQ.out.two
      go_wp2
      go_roundw
      case rel => exact ⟨trivial, .inr (.inr ⟨rfl, rfl⟩)⟩
      case measure => simp [intOf]
    · go_wp2_with fail
      refine (growRec_is s _ (by have := hs'.out; omega)).mono ?_
      rintro e w1 ⟨u, rfl, hown, hb⟩
      have hown1 := Lib.hid hown
      clear hown
      obtain ⟨w0, rfl⟩ : ∃ w0, w0 = wr := ⟨_, rfl⟩
      go_wp2_with fail
      go_loopw [6, 27] (fun uv iv wr => Below w0.heap.size w0 wr ∧ ((iv = .int .i64 0 ∧ wr.ownsRow w0.heap.size 46 9 uv 0 []) ∨ (iv = .int .i64 1 ∧ wr.ownsRow w0.heap.size 46 9 uv n xs) ∨ (iv = .int .i64 2 ∧ wr.ownsRow w0.heap.size 46 9 uv s (xs ++ xs')))) (fun _ i _ => 2 - (intOf i).toNat)
      case atStart => exact ⟨hb, .inl ⟨rfl, hown1.out⟩⟩
      case round =>
        obtain ⟨hbel, ⟨rfl, hown⟩ | ⟨rfl, hown⟩ | ⟨rfl, hown⟩⟩ := hrel
        · have hc := (HQ.out.later hbel HQ.out.lt |>.two)
          rcases HS.out with ⟨hv, hps, hxs⟩ | ⟨ad, c, hv, hl, hnews, hone⟩
          · injection hv with e1 e2 e3
            subst e1 e2 e3
            have hxs := Lib.hid hxs
            rename_i q1
            clear q1 hps
            go_wp2_with (at_builtin; refine wpList_append_own_none rfl _ _ _ rfl w0.heap.size 46 i0 9 Tryz.underlying27 hi0 u6 0 [] rfl hown rfl ?_)
            go_roundw
            case rel => exact ⟨hbel, .inr (.inl ⟨rfl, by rw [hxs.out]; exact hown⟩)⟩
            case measure => simp [intOf]
          · injection hv with e1 e2 e3
            subst e1 e3
            have hbs := hbel.size
            have hoL := Lib.hid hown
            have hN : ∀ j x, xs[j]? = some x → wr.cell? (ad.add j) = some x := fun j x hx => by
              have := hnews j x hx
              exact (hbel.cell (p := ad.add j) (block_lt_of_cell this)).trans this
            have HN := Lib.hid hN
            have HO := Lib.hid hone
            have HLn := Lib.hid hl
            clear hN hone hl hnews
            go_wp2_with (at_builtin; refine wpList_append_own _ rfl _ _ _ rfl w0.heap.size 46 i0 _ 9 88 Tryz.underlying27 hi0 hz0 hz1 hz2 rfl (by omega) u6 0 [] rfl hown ad n cap xs rfl HLn.out HN.out HO.out (by unfold maxLen; omega) (by omega) hbs ?_; intro u1 w2 hown2 hgrow2 _)
            have E2 := hbel.grown hgrow2 hbs (fun k hk => (hoL.out.lt k hk).1)
            have hown3 := Lib.hid hown2
            clear hown2
            go_roundw
            case rel => exact ⟨E2, .inr (.inl ⟨rfl, by simpa using hown3.out⟩)⟩
            case measure => simp [intOf]
        · have hc := (HQ.out.later hbel HQ.out.lt |>.two)
          rcases HS'.out with ⟨hv, hps, hxs⟩ | ⟨ad, c, hv, hl, hnews, hone⟩
          · injection hv with e1 e2 e3
            subst e1 e2 e3
            have hxs := Lib.hid hxs
            rename_i q1
            clear q1 hps
            go_wp2_with (at_builtin; refine wpList_append_own_none rfl _ _ _ rfl w0.heap.size 46 i0 9 Tryz.underlying27 hi0 u6 n xs rfl hown rfl ?_)
            go_roundw
            case rel => exact ⟨hbel, .inr (.inr ⟨rfl, by rw [hxs.out, List.append_nil, ← hs'.out]; exact hown⟩)⟩
            case measure => simp [intOf]
          · injection hv with e1 e2 e3
            subst e1 e3
            have hbs := hbel.size
            have hoL := Lib.hid hown
            have hN : ∀ j x, xs'[j]? = some x → wr.cell? (ad.add j) = some x := fun j x hx => by
              have := hnews j x hx
              exact (hbel.cell (p := ad.add j) (block_lt_of_cell this)).trans this
            have HN := Lib.hid hN
            have HO := Lib.hid hone
            have HLn := Lib.hid hl
            clear hN hone hl hnews
            go_wp2_with (at_builtin; refine wpList_append_own _ rfl _ _ _ rfl w0.heap.size 46 i0 _ 9 88 Tryz.underlying27 hi0 hz0 hz1 hz2 rfl (by omega) u6 n xs rfl hown ad n' cap' xs' rfl HLn.out HN.out HO.out (by unfold maxLen; omega) (by omega) hbs ?_; intro u1 w2 hown2 hgrow2 _)
            have E2 := hbel.grown hgrow2 hbs (fun k hk => (hoL.out.lt k hk).1)
            have hown3 := Lib.hid hown2
            clear hown2
            go_roundw
            case rel => exact ⟨E2, .inr (.inr ⟨rfl, by rw [← hs'.out]; exact hown3.out⟩)⟩
            case measure => simp [intOf]
        · have hown2 := Lib.hid hown
          clear hown
          go_wp2
          go_ret
          exact ⟨_, rfl, by rw [hs'.out]; exact hown2.out, hbel⟩
end Go.Proofs.YtjdepjpjjgkmbaaGreat

/- Sink's walk inside a fence that asks nothing of a function, in a round or in none: a region that draws its order, no operation of it a defer; no conditions. -/
namespace Go.Proofs.YtjdepjpjjgkmbaaGreat
open Go

/-- A fence that lets every function in, and a region without a defer. -/
def Plain (F : Fence) (ops : Array Oper) : Prop := (∀ f, F.fn f) ∧ ∀ (j : Nat) (o : Oper), ops[j]? = some o → ∀ ρ : Operand → Value, o.semAt F.round ρ = execOp ρ o
def noDefer (ops : Array Oper) : Bool := ops.all fun o => match o.op with | .defer _ => false | _ => true
theorem plain_of {F : Fence} {ops : Array Oper} (hF : ∀ f, F.fn f) (h : noDefer ops = true) : Plain F ops := ⟨hF, fun j o ho ρ => by
  refine Oper.semAt_eq _ _ _ (fun c hc => ?_)
  unfold noDefer at h
  rw [Array.all_eq_true_iff_forall_mem] at h
  have := h o (Array.mem_of_getElem? ho)
  rw [hc] at this
  cases this⟩

section
variable {F : Fence} {n : Nat} {P : Program} {ops : Array Oper} {Q : Exit → Act → World → Prop} {md : Region.Mode} {S T : World → Prop} {z : Nat}

theorem _root_.Go.YieldsIf.wpOpIn (hsem : Plain F ops) {i : Nat} {o : Oper} {v : Value} {a : Act} (hi : ops[i]? = some o) (hy : YieldsIf P ops S o v a)
    {K : Act → World → Prop} {w : World} (hS : S w) (h : K (a.put o.dst v) w) : wpOpIn F n P ops Q i K a w := by
  unfold Go.wpOpIn
  simp only [hi]
  rcases hy with ⟨hw, hv⟩ | ⟨hw, rfl⟩
  · simp only [hw, if_true, Oper.wpIn, hsem.2 i o hi, hv w hS, Oper.uponIn]; exact ⟨fun f _ => hsem.1 f, h⟩
  · simp only [hw, Bool.false_eq_true, if_false]; exact ⟨fun f _ => hsem.1 f, h⟩
theorem wpOpIn_putIf (hsem : Plain F ops) {j : Nat} {oi oj : Oper} {v : Value} (hj : ops[j]? = some oj) (hap : oi.apart ops oj = true)
    (hsi : ∀ cs b, oi.op ≠ .select cs b) (hsj : ∀ cs b, oj.op ≠ .select cs b)
    (hQ : ∀ c a w, Q (.panic c) (a.put oi.dst v) w → Q (.panic c) a w) {K : Act → World → Prop} {a : Act} {w : World}
    (hy : YieldsIf P ops S oi v a) (h : wpOpIn F n P ops Q j K (a.put oi.dst v) w) :
    wpOpIn F n P ops Q j (fun a' w' => YieldsIf P ops S oi v a' ∧ K (a'.put oi.dst v) w') a w := by
  obtain ⟨h1, h2, h3⟩ := Oper.apart_spec hap
  have keep : ∀ (a : Act), YieldsIf P ops S oi v a → ∀ u, YieldsIf P ops S oi v (a.put oj.dst u) := fun a hy u =>
    hy.of_same (execOp_put oi hsi a oj.dst u h3) (wanted_put oi a oj.dst u h3)
  have swap : ∀ {u : Value} {w' : World}, K ((a.put oi.dst v).put oj.dst u) w' → YieldsIf P ops S oi v (a.put oj.dst u) ∧ K ((a.put oj.dst u).put oi.dst v) w' :=
    fun h => ⟨keep a hy _, by rw [← Act.put_comm a v _ h2]; exact h⟩
  have hjs := hsem.2 j oj hj
  have hfn := hsem.1
  unfold wpOpIn at *
  simp only [hj] at h ⊢
  rw [wanted_put oj a oi.dst v h1] at h
  split
  · rename_i hw
    simp only [hw, if_true] at h
    unfold Oper.wpIn at *
    refine ⟨fun f _ => hfn f, ?_⟩
    have h := h.2
    rw [hjs, execOp_put oj hsj a oi.dst v h1] at h
    rw [hjs]
    generalize (execOp a.eval oj).run P w = r at *
    cases r with
    | ok x w' =>
      cases x <;> simp only [Oper.uponIn] at h ⊢
      case value u => exact swap h
      case skip => exact swap h
      case defer d =>
        refine ⟨keep { a with defers := d :: a.defers } (hy.of_same rfl rfl) _, ?_⟩
        rw [← Act.put_comm _ v undef h2, ← Act.put_defers]
        exact h
      case enter f args => exact ⟨h.1, CallsIn.mono h.2 fun e w'' he => by cases e <;> first | exact swap he | exact hQ _ _ _ he | exact he⟩
      case row row args => exact ⟨h.1, RowsIn.mono h.2 fun u w'' he => swap he⟩
      case round l f tmps assign body => exact ⟨h.1, RoundIn.mono h.2 fun e w'' he => by cases e <;> first | exact swap he | exact hQ _ _ _ he | exact he⟩
    | halt x w' =>
      cases x <;> simp only [Oper.uponIn] at h ⊢
      case panic u => exact hQ _ _ _ h
  · rename_i hw
    simp only [hw] at h
    exact ⟨fun f _ => hsem.1 f, swap h.2⟩

/-- Whatever order is picked from here on, and S holds behind every operation till number z has come up. -/
def wpAnyEI (F : Fence) (n : Nat) (P : Program) (md : Region.Mode) (ops : Array Oper) (Q : Exit → Act → World → Prop) (S : World → Prop) (z : Nat) : Nat → Array Bool → Act → World → Prop
  | 0, listed, a, w => Region.ready md ops listed = [] ∧ Q .normal a w
  | fuel + 1, listed, a, w =>
    (Region.ready md ops listed = [] → Q .normal a w) ∧
    ∀ i ∈ Region.ready md ops listed, wpOpIn F n P ops Q i (fun a' w' => (i ≠ z → listed.getD z false = false → S w') ∧ wpAnyEI F n P md ops Q S z fuel (listed.setIfInBounds i true) a' w') a w

theorem wpAnyIn_of_sink : ∀ (fuel : Nat) (listed : Array Bool) (a : Act) (w : World), wpAnyEI F n P md ops Q S z fuel listed a w → wpAnyIn F n P md ops Q fuel listed a w
  | 0, _, _, _, h => h
  | fuel + 1, _, _, _, h => ⟨h.1, fun i hi => wpOpIn_mono (fun a' w' h' => wpAnyIn_of_sink fuel _ a' w' h'.2) (h.2 i hi)⟩

theorem wpAnyEI_first {i : Nat} {oi : Oper} {v : Value} (hsem : Plain F ops) (hi : ops[i]? = some oi) (hsel : ∀ (j : Nat) (o : Oper) cs b, ops[j]? = some o → o.op ≠ .select cs b)
    (hQ : ∀ c a w, Q (.panic c) (a.put oi.dst v) w → Q (.panic c) a w) (hiz : i ≠ z) :
    ∀ (fuel : Nat) (listed : Array Bool) (a : Act) (w : World),
      (∀ j oj, ops[j]? = some oj → j ≠ i → listed.getD j true = false → (∀ e ∈ oj.after, Region.binds md e = true → e.on ≠ i) → oi.apart ops oj = true) →
      i ∈ Region.ready md ops listed → YieldsIf P ops T oi v a → FirstAt md ops S T z i listed → (listed.getD z false = false → S w) →
      wpAnyEI F n P md ops Q S z fuel (listed.setIfInBounds i true) (a.put oi.dst v) w → wpAnyEI F n P md ops Q S z (fuel + 1) listed a w := by
  intro fuel
  induction fuel with
  | zero =>
    intro listed a w _ hr hy hF hS H
    have hT : T w := by
      rcases hF with h | ⟨h, _, hl⟩
      · exact h w
      · exact h w (hS hl)
    refine ⟨fun h => (by rw [h] at hr; cases hr), fun j hj => ?_⟩
    by_cases hji : j = i
    · subst hji; exact hy.wpOpIn hsem hi hT ⟨fun _ h => hS h, H⟩
    · have := ready_mono hj hji
      rw [H.1] at this
      cases this
  | succ fuel ih =>
    intro listed a w hfree hr hy hF hS H
    have hT : T w := by
      rcases hF with h | ⟨h, _, hl⟩
      · exact h w
      · exact h w (hS hl)
    refine ⟨fun h => (by rw [h] at hr; cases hr), fun j hj => ?_⟩
    by_cases hji : j = i
    · subst hji; exact hy.wpOpIn hsem hi hT ⟨fun _ h => hS h, H⟩
    · have h1 := H.2 j (ready_mono hj hji)
      obtain ⟨hjun, oj, hoj, hall⟩ := mem_ready.1 hj
      have hun := (mem_ready.1 hr).1
      have hnot : ∀ e ∈ oj.after, Region.binds md e = true → e.on ≠ i := fun e he hb heq => by
        have h1 := hall e he hb
        rw [heq, getD_both hun] at h1
        cases h1
      have hzset : (listed.setIfInBounds i true).getD z false = listed.getD z false := getD_set_ne false hiz
      have h2 := wpOpIn_putIf hsem hoj (hfree j oj hoj hji hjun hnot) (fun cs b => hsel i oi cs b hi) (fun cs b => hsel j oj cs b hoj) hQ hy h1
      have hfree' : ∀ k ok, ops[k]? = some ok → k ≠ i → (listed.setIfInBounds j true).getD k true = false →
          (∀ e ∈ ok.after, Region.binds md e = true → e.on ≠ i) → oi.apart ops ok = true := fun k ok hk hki hun hno => by
        refine hfree k ok hk hki ?_ hno
        by_cases hjk : j = k
        · subst hjk; exact hjun
        · rw [getD_set_ne true hjk] at hun; exact hun
      have hF' : FirstAt md ops S T z i (listed.setIfInBounds j true) := by
        rcases hF with h | ⟨h, hw, hl⟩
        · exact .inl h
        · refine .inr ⟨h, hw, ?_⟩
          by_cases hjz : j = z
          · subst hjz
            obtain ⟨o', ho', e, he, hb, hon⟩ := Region.waitsFor_spec hw
            have : o' = oj := Option.some.inj (ho'.symm.trans hoj)
            subst this
            exact absurd hon (hnot e he hb)
          · rw [getD_set_ne false hjz]; exact hl
      refine wpOpIn_mono (fun a' w' h3 => ⟨fun hjz hlz => h3.2.1 hjz (hzset.trans hlz), ih (listed.setIfInBounds j true) a' w' hfree' (ready_mono hr (Ne.symm hji)) h3.1 hF' (fun hz' => ?_) ?_⟩) h2
      · by_cases hjz : j = z
        · subst hjz
          have hs : j < listed.size := by
            rcases Nat.lt_or_ge j listed.size with h | h
            · exact h
            · simp [Array.getElem?_eq_none h] at hjun
          simp [hs] at hz'
        · rw [getD_set_ne false hjz] at hz'
          exact h3.2.1 hjz (hzset.trans hz')
      · rw [Array.setIfInBounds_comm _ _ hji]
        exact h3.2.2

/-- Take number i first, which yields in whatever world. -/
theorem wpAnyEI_pure {i : Nat} {oi : Oper} {v : Value} (hsem : Plain F ops) {fuel : Nat} {listed : Array Bool} {a : Act} {w : World} (hi : ops[i]? = some oi)
    (hs : Region.noSelect ops = true) (hf : Region.free md ops listed i = true) (hr : (Region.ready md ops listed).contains i = true)
    (hQ : ∀ c a w, Q (.panic c) (a.put oi.dst v) w → Q (.panic c) a w) (hz : (i == z) = false) (hy : YieldsIf P ops (fun _ => True) oi v a) (hS : S w)
    (h : wpAnyEI F n P md ops Q S z fuel (listed.setIfInBounds i true) (a.put oi.dst v) w) : wpAnyEI F n P md ops Q S z (fuel + 1) listed a w :=
  wpAnyEI_first hsem hi (Region.noSelect_spec hs) hQ (by simpa using hz) fuel listed a w (Region.free_spec hi hf) (by simpa using hr) hy (.inl fun _ => trivial) (fun _ => hS) h
/-- Number i alone can come up, and is not the last: S is to be shown anew. -/
theorem wpAnyEI_one {i : Nat} {o : Oper} {fuel : Nat} {listed : Array Bool} {a : Act} {w : World} (hr : Region.ready md ops listed = [i]) (ho : ops[i]? = some o)
    (h : ∀ K' : Act → World → Prop, Shut (∀ a w, S w → (S w → wpAnyEI F n P md ops Q S z fuel (listed.setIfInBounds i true) a w) → K' a w) → if Region.wanted o (yielded ops a.tmps) = true then Oper.wpIn F n P o a w K' Q else (∀ f, o.about P w a.eval = some f → F.fn f) ∧ K' (a.put o.dst undef) w) : wpAnyEI F n P md ops Q S z (fuel + 1) listed a w := by
  refine ⟨fun h0 => (by rw [hr] at h0; cases h0), fun j hj => ?_⟩
  rw [hr] at hj
  have e : j = i := by simpa using hj
  subst e
  exact wpOpIn_step ho (fun K' hK => h K' (fun a w hS hW => hK a w ⟨fun _ _ => hS, hW hS⟩))
/-- The last one. -/
theorem wpAnyEI_last {o : Oper} {fuel : Nat} {listed : Array Bool} {a : Act} {w : World} (hr : Region.ready md ops listed = [z]) (ho : ops[z]? = some o) (hend : Region.ready md ops (listed.setIfInBounds z true) = [])
    (h : ∀ K' : Act → World → Prop, Shut (∀ a w, Q .normal a w → K' a w) → if Region.wanted o (yielded ops a.tmps) = true then Oper.wpIn F n P o a w K' Q else (∀ f, o.about P w a.eval = some f → F.fn f) ∧ K' (a.put o.dst undef) w) : wpAnyEI F n P md ops Q S z (fuel + 1) listed a w := by
  refine ⟨fun h0 => (by rw [hr] at h0; cases h0), fun j hj => ?_⟩
  rw [hr] at hj
  have e : j = z := by simpa using hj
  subst e
  refine wpOpIn_step ho (fun K' hK => h K' (fun a w hW => hK a w ⟨fun h => absurd rfl h, ?_⟩))
  cases fuel with
  | zero => exact ⟨hend, hW⟩
  | succ f => exact ⟨fun _ => hW, by rw [hend]; simp⟩
theorem wpIn_region_sink {id : Nat} {a : Act} {w : World} (z : Nat) (S : World → Prop) (hm : P.follows .mixedOrders = true) (hS : S w.drew)
    (h : S w.drew → wpAnyEI F n P .any ops Q S z ops.size (Array.replicate ops.size false) a w.drew) : (Code.region id ops true).wpIn F n P Q a w :=
  wpIn_region_any hm (wpAnyIn_of_sink _ _ _ _ (h hS))
/-- A way from i to z: each waits for the one before it. -/
def wayTo (md : Region.Mode) (ops : Array Oper) (z : Nat) : Nat → List Nat → Bool
  | i, [] => Region.waitsFor md ops z i
  | i, p :: ps => Region.waitsFor md ops p i && wayTo md ops z p ps
theorem not_on_way {j : Nat} {listed : Array Bool} (hj : j ∈ Region.ready md ops listed) : ∀ (path : List Nat) (i : Nat), wayTo md ops z i path = true → listed.getD i true = false → (∀ p ∈ z :: path, listed.getD p true = false) → j ∉ z :: path := by
  obtain ⟨hjun, oj, hoj, hall⟩ := mem_ready.1 hj
  have step : ∀ i p, Region.waitsFor md ops p i = true → listed.getD i true = false → j ≠ p := fun i p hw hun e => by
    subst e
    obtain ⟨o', ho', e, he, hb, hon⟩ := Region.waitsFor_spec hw
    have : o' = oj := Option.some.inj (ho'.symm.trans hoj)
    subst this
    have h1 := hall e he hb
    rw [hon, getD_both hun] at h1
    cases h1
  intro path
  induction path with
  | nil =>
    intro i hw hun _ hm
    have e : j = z := by simpa using hm
    exact step i z hw hun e
  | cons p ps ih =>
    intro i hw hun hp hm
    unfold wayTo at hw
    rw [Bool.and_eq_true] at hw
    have hne := step i p hw.1 hun
    have hz := ih p hw.2 (hp p (by simp)) (fun q hq => hp q (by
      rcases List.mem_cons.1 hq with rfl | hq
      · simp
      · simp [hq]))
    rcases List.mem_cons.1 hm with e | hm
    · exact hz (by rw [e]; simp)
    · rcases List.mem_cons.1 hm with e | hm
      · exact hne e
      · exact hz (List.mem_cons_of_mem _ hm)
/-- Take number i first, which yields where S holds, and z comes up behind it only. -/
theorem wpAnyEI_firstP {i : Nat} {oi : Oper} {v : Value} (hsem : Plain F ops) (hi : ops[i]? = some oi) (hsel : ∀ (j : Nat) (o : Oper) cs b, ops[j]? = some o → o.op ≠ .select cs b)
    (hQ : ∀ c a w, Q (.panic c) (a.put oi.dst v) w → Q (.panic c) a w) (hiz : i ≠ z) (path : List Nat) (hway : wayTo md ops z i path = true) :
    ∀ (fuel : Nat) (listed : Array Bool) (a : Act) (w : World),
      (∀ j oj, ops[j]? = some oj → j ≠ i → listed.getD j true = false → (∀ e ∈ oj.after, Region.binds md e = true → e.on ≠ i) → oi.apart ops oj = true) →
      i ∈ Region.ready md ops listed → YieldsIf P ops S oi v a → (∀ p ∈ z :: path, listed.getD p true = false) → S w →
      wpAnyEI F n P md ops Q S z fuel (listed.setIfInBounds i true) (a.put oi.dst v) w → wpAnyEI F n P md ops Q S z (fuel + 1) listed a w := by
  intro fuel
  induction fuel with
  | zero =>
    intro listed a w _ hr hy _ hS H
    refine ⟨fun h => (by rw [h] at hr; cases hr), fun j hj => ?_⟩
    by_cases hji : j = i
    · subst hji; exact hy.wpOpIn hsem hi hS ⟨fun _ _ => hS, H⟩
    · have := ready_mono hj hji
      rw [H.1] at this
      cases this
  | succ fuel ih =>
    intro listed a w hfree hr hy hl hS H
    refine ⟨fun h => (by rw [h] at hr; cases hr), fun j hj => ?_⟩
    by_cases hji : j = i
    · subst hji; exact hy.wpOpIn hsem hi hS ⟨fun _ _ => hS, H⟩
    · have h1 := H.2 j (ready_mono hj hji)
      have hun := (mem_ready.1 hr).1
      have hnw := not_on_way hj path i hway hun hl
      obtain ⟨hjun, oj, hoj, hall⟩ := mem_ready.1 hj
      have hjz : j ≠ z := fun e => hnw (by rw [e]; simp)
      have hnot : ∀ e ∈ oj.after, Region.binds md e = true → e.on ≠ i := fun e he hb heq => by
        have h1 := hall e he hb
        rw [heq, getD_both hun] at h1
        cases h1
      have hzset : (listed.setIfInBounds i true).getD z false = false := by rw [getD_set_ne false hiz]; exact getD_both (hl z (by simp))
      have h2 := wpOpIn_putIf hsem hoj (hfree j oj hoj hji hjun hnot) (fun cs b => hsel i oi cs b hi) (fun cs b => hsel j oj cs b hoj) hQ hy h1
      have hfree' : ∀ k ok, ops[k]? = some ok → k ≠ i → (listed.setIfInBounds j true).getD k true = false →
          (∀ e ∈ ok.after, Region.binds md e = true → e.on ≠ i) → oi.apart ops ok = true := fun k ok hk hki hun hno => by
        refine hfree k ok hk hki ?_ hno
        by_cases hjk : j = k
        · subst hjk; exact hjun
        · rw [getD_set_ne true hjk] at hun; exact hun
      refine wpOpIn_mono (fun a' w' h3 => ⟨fun hjz' _ => h3.2.1 hjz' hzset, ih (listed.setIfInBounds j true) a' w' hfree' (ready_mono hr (Ne.symm hji)) h3.1 (fun p hp => ?_) (h3.2.1 hjz hzset) ?_⟩) h2
      · rw [getD_set_ne true (fun e => hnw (by rw [e]; exact hp))]; exact hl p hp
      · rw [Array.setIfInBounds_comm _ _ hji]
        exact h3.2.2
theorem wpAnyEI_takeP {i : Nat} {oi : Oper} {v : Value} (path : List Nat) (hsem : Plain F ops) {fuel : Nat} {listed : Array Bool} {a : Act} {w : World} (hi : ops[i]? = some oi)
    (hs : Region.noSelect ops = true) (hf : Region.free md ops listed i = true) (hr : (Region.ready md ops listed).contains i = true)
    (hQ : ∀ c a w, Q (.panic c) (a.put oi.dst v) w → Q (.panic c) a w) (hz : ((z :: path).all (fun p => !listed.getD p true) && wayTo md ops z i path && !(i == z)) = true) (hy : YieldsIf P ops S oi v a) (hS : S w)
    (h : wpAnyEI F n P md ops Q S z fuel (listed.setIfInBounds i true) (a.put oi.dst v) w) : wpAnyEI F n P md ops Q S z (fuel + 1) listed a w := by
  simp only [Bool.and_eq_true, Bool.not_eq_true', beq_eq_false_iff_ne, List.all_eq_true] at hz
  exact wpAnyEI_firstP hsem hi (Region.noSelect_spec hs) hQ hz.2 path hz.1.2 fuel listed a w (Region.free_spec hi hf) (by simpa using hr) hy (fun p hp => by simpa using hz.1.1 p hp) hS h
/-- Number i alone can come up, and z has come or comes now: S is not asked any more. -/
theorem wpAnyEI_any {i : Nat} {o : Oper} {fuel : Nat} {listed : Array Bool} {a : Act} {w : World} (hr : Region.ready md ops listed = [i]) (ho : ops[i]? = some o) (hz : (i == z || listed.getD z false) = true)
    (h : ∀ K' : Act → World → Prop, Shut (∀ a w, wpAnyEI F n P md ops Q S z fuel (listed.setIfInBounds i true) a w → K' a w) → if Region.wanted o (yielded ops a.tmps) = true then Oper.wpIn F n P o a w K' Q else (∀ f, o.about P w a.eval = some f → F.fn f) ∧ K' (a.put o.dst undef) w) : wpAnyEI F n P md ops Q S z (fuel + 1) listed a w := by
  refine ⟨fun h0 => (by rw [hr] at h0; cases h0), fun j hj => ?_⟩
  rw [hr] at hj
  have e : j = i := by simpa using hj
  subst e
  refine wpOpIn_step ho (fun K' hK => h K' (fun a w hW => hK a w ⟨fun h1 h2 => ?_, hW⟩))
  rw [Bool.or_eq_true, beq_iff_eq] at hz
  rcases hz with e | e
  · exact absurd e h1
  · rw [h2] at e; cases e
theorem wpAnyEI_nil {fuel : Nat} {listed : Array Bool} {a : Act} {w : World} (hr : Region.ready md ops listed = []) (h : Q .normal a w) : wpAnyEI F n P md ops Q S z fuel listed a w := by
  cases fuel with
  | zero => exact ⟨hr, h⟩
  | succ f => exact ⟨fun _ => h, by rw [hr]; simp⟩
end

end Go.Proofs.YtjdepjpjjgkmbaaGreat

/- Rows stored and loaded whole inside a fence; a list of records with its lists named; what a function's iterator is handed; no conditions. -/
namespace Go.Proofs.YtjdepjpjjgkmbaaGreat
open Go Go.RowKit Go.Shelf

section
variable {F : Fence} {n : Nat} {P : Program} {ops : Array Oper} {rest : List Oper} {o : Oper} {a : Act} {w : World} {Q : Exit → Act → World → Prop}
theorem wpIn_store_row {K : Act → World → Prop} (hF : ∀ f, F.fn f) (ty : TypeId) (x y : Operand) (ho : o.op = .store ty x y)
    (g : Nat) (cells : Array Value) (hx : a.eval x = .pointer (some ⟨g, 0, none⟩)) (hy : a.eval y = .agg cells)
    (t : TypeId) (old : Array Value) (hg : Box w g t old) (hi : (P.info? ty).map (·.size) = some cells.size)
    (hold : old.size = cells.size) (h1 : cells.all (·.oneCell') = true)
    (h : K (a.put o.dst undef) (w.setRow g cells)) : o.wpIn F n P a w K Q := by
  unfold Oper.wpIn
  refine ⟨fun f _ => hF f, ?_⟩
  rw [Oper.semAt_plain F _ _ (by rw [ho]; intro c hc; cases hc)]
  unfold execOp
  simp only [ho, hx, hy, Instr.storeAt, Instr.sureAddr, Sem.run_bind, Sem.run_pure, Result.andThen_ok, run_storeVar_row w g t ty old cells hg hi hold h1]
  exact h
theorem wpListIn_store_row (hF : ∀ f, F.fn f) (hgd : o.guard = none) (ty : TypeId) (x y : Operand) (ho : o.op = .store ty x y)
    (g : Nat) (cells : Array Value) (hx : a.eval x = .pointer (some ⟨g, 0, none⟩)) (hy : a.eval y = .agg cells)
    (t : TypeId) (old : Array Value) (hg : Box w g t old) (hi : (P.info? ty).map (·.size) = some cells.size)
    (hold : old.size = cells.size) (h1 : cells.all (·.oneCell') = true)
    (h : wpListIn F n P ops Q rest (a.put o.dst undef) (w.setRow g cells)) : wpListIn F n P ops Q (o :: rest) a w :=
  wpListIn_plain hgd fun _ hK => wpIn_store_row hF ty x y ho g cells hx hy t old hg hi hold h1 (hK _ _ h)
end

/-- A list of records, its lists named. -/
def RecsV (ds : List RecD) (w : World) (F : Nat → Prop) (A : Option Addr) (n : Nat) (L : Nat → Option Addr) (m mc : Nat → Nat) : Prop :=
  ds.length = n ∧ (0 < n → ∃ b o, A = some ⟨b, o, none⟩ ∧ F b ∧ b < w.heap.size ∧ ∀ i (h : i < ds.length), RecAt w b (o + i * 9) ds[i] (.slice (L i) (m i) (mc i)) ∧ m i ≤ maxLen ∧ PairsF w F (L i) (m i) (ds[i]).ps)
theorem RecsV.turn {T : Nat → Prop} {w w' : World} {F : Nat → Prop} {A : Option Addr} {n : Nat} {ds : List RecD} {L : Nat → Option Addr} {m mc : Nat → Nat} (h : RecsV ds w F A n L m mc) (ht : Turns T w w') (hd : ∀ b, F b → ¬ T b) : RecsV ds w' F A n L m mc := by
  refine ⟨h.1, fun hn => ?_⟩
  obtain ⟨b, o, hA, hF, hb, hc⟩ := h.2 hn
  refine ⟨b, o, hA, hF, Nat.lt_of_lt_of_le hb ht.size, fun i hi => ?_⟩
  obtain ⟨h1, h2, h3⟩ := hc i hi
  exact ⟨h1.turn hb ht (hd b hF), h2, h3.turn ht hd⟩
theorem RecsF.vals {ds : List RecD} {w : World} {F : Nat → Prop} {A : Option Addr} {n : Nat} (h : RecsF ds w F A n) : ∃ L m mc, RecsV ds w F A n L m mc := by
  by_cases hn : 0 < n
  · obtain ⟨b, o, hA, hF, hb, hc⟩ := h.2 hn
    have hc' : ∀ i, ∃ p : Option Addr × Nat × Nat, ∀ hi : i < ds.length, RecAt w b (o + i * 9) ds[i] (.slice p.1 p.2.1 p.2.2) ∧ p.2.1 ≤ maxLen ∧ PairsF w F p.1 p.2.1 (ds[i]).ps := fun i => by
      by_cases hi : i < ds.length
      · obtain ⟨L, m, mc, h1, h2, h3⟩ := hc i hi
        exact ⟨(L, m, mc), fun _ => ⟨h1, h2, h3⟩⟩
      · exact ⟨(none, 0, 0), fun h => absurd h hi⟩
    exact ⟨fun i => (Classical.choose (hc' i)).1, fun i => (Classical.choose (hc' i)).2.1, fun i => (Classical.choose (hc' i)).2.2, h.1, fun _ => ⟨b, o, hA, hF, hb, fun i hi => Classical.choose_spec (hc' i) hi⟩⟩
  · exact ⟨fun _ => none, fun _ => 0, fun _ => 0, h.1, fun h => absurd h hn⟩
/-- A record's cells, its list at this place. -/
def cellsC (d : RecD) (L : Option Addr) (m mc : Nat) : Array Value := #[.int .i64 d.r1, .int .i64 d.r2, .int .i64 d.r3, .int .i64 d.r4, .int .i64 d.r5, .int .i64 d.r6, .int .i64 d.r7, .slice L m mc, .int .i64 d.r8]
/-- The numbers below k, below n. -/
def firsts (n k : Nat) : List (Fin n) := (List.finRange n).take k
theorem firsts_snoc (n k : Nat) (h : k < n) : firsts n (k + 1) = firsts n k ++ [⟨k, h⟩] := by
  unfold firsts
  rw [List.take_succ_eq_append_getElem (by simpa using h)]
  simp
theorem firsts_all (n : Nat) : firsts n n = List.finRange n := by
  unfold firsts
  exact List.take_of_length_le (by simp)
theorem firsts_pre (n k : Nat) : firsts n k <+: List.finRange n := List.take_prefix _ _
theorem firsts_len (n k : Nat) (h : k ≤ n) : (firsts n k).length = k := by
  unfold firsts
  simp only [List.length_take, List.length_finRange]
  omega
/-- New blocks alone. -/
theorem grown_none {a b : World} (h : Below a.heap.size a b) : a.grownBy b none := ⟨h.os, h.tape, h.output, h.size, fun i hi _ => h.block i hi⟩
/-- Whatever abides growth abides new blocks. -/
theorem AbidesFrom.later {β : Type} {B : Nat} {J : β → World → Prop} (h : AbidesFrom B J) {s : β} {w w' : World} (hj : J s w) (hb : Below w.heap.size w w') : J s w' :=
  h s w w' none hj (grown_none hb) (fun r e => by cases e)
/-- What a round keeps: whatever lay below N, and whatever is cells, but for the block G. -/
structure KeepC (G N : Nat) (w w' : World) : Prop where
  os : w'.os = w.os
  tape : w'.tape = w.tape
  output : w'.output = w.output
  size : w.heap.size ≤ w'.heap.size
  block : ∀ i o, w.heap[i]? = some o → i ≠ G → (i < N ∨ o.isCells = true) → w'.heap[i]? = some o
/-- The blocks that may have turned. -/
def TurnC (G N : Nat) (w : World) : Nat → Prop := fun i => i = G ∨ (N ≤ i ∧ ∃ o, w.heap[i]? = some o ∧ o.isCells = false)
theorem KeepC.turns {G N : Nat} {w w' : World} (h : KeepC G N w w') : Turns (TurnC G N w) w w' := ⟨h.os, h.tape, h.output, h.size, fun i hi hT => by
  have e : w.heap[i]? = some w.heap[i] := Array.getElem?_eq_getElem hi
  rw [e]
  refine h.block i _ e (fun hG => hT (.inl hG)) ?_
  by_cases hN : i < N
  · exact .inl hN
  · refine .inr ?_
    rcases hc : (w.heap[i]).isCells with _ | _
    · exact absurd (.inr ⟨by omega, _, e, hc⟩) hT
    · rfl⟩
theorem KeepC.trans {G N : Nat} {a b c : World} (h : KeepC G N a b) (k : KeepC G N b c) : KeepC G N a c :=
  ⟨k.os.trans h.os, k.tape.trans h.tape, k.output.trans h.output, Nat.le_trans h.size k.size, fun i o hi hG hN => k.block i o (h.block i o hi hG hN) hG hN⟩
theorem KeepC.of_below {G N : Nat} {a b : World} (h : Below a.heap.size a b) : KeepC G N a b :=
  ⟨h.os, h.tape, h.output, h.size, fun i _ hi _ _ => (h.block i (Array.getElem?_eq_some_iff.1 hi).1).trans hi⟩
theorem KeepC.of_turns {G N : Nat} {T : Nat → Prop} {a b : World} (h : Turns T a b) (hT : ∀ i, T i → i = G) : KeepC G N a b :=
  ⟨h.os, h.tape, h.output, h.size, fun i _ hi hG _ => (h.block i (Array.getElem?_eq_some_iff.1 hi).1 (fun ht => hG (hT i ht))).trans hi⟩
theorem KeepC.refl {G N : Nat} (w : World) : KeepC G N w w := KeepC.of_below (Below.refl _ _)
theorem keepC_put {G N : Nat} (W : World) (l : Nat) (o o' : Obj) (hl : N ≤ l) (h : W.heap[l]? = some o) (hc : o.isCells = false) : KeepC G N W (W.putObj l o') :=
  ⟨rfl, rfl, rfl, by simp [World.putObj], fun i x hi _ hx => by
    have hne : i ≠ l := fun e => by
      subst e
      rw [h] at hi
      injection hi with hi
      subst hi
      rcases hx with hx | hx
      · omega
      · rw [hc] at hx; cases hx
    exact (World.putObj_heap_other hne).trans hi⟩
theorem notC_box {G N : Nat} {w : World} {g : Nat} {t : TypeId} {cs : Array Value} (hx : Box w g t cs) (hg : g ≠ G) : ¬ TurnC G N w g := fun h => by
  rcases h with h | ⟨_, o, ho, hc⟩
  · exact hg h
  · rw [show w.heap[g]? = some (.cells cs t (0, 0)) from hx] at ho
    injection ho with ho
    subst ho
    cases hc
theorem notC_low {G N : Nat} {w : World} {b : Nat} (hb : b < N) (hg : b ≠ G) : ¬ TurnC G N w b := fun h => by
  rcases h with h | ⟨h, _⟩
  · exact hg h
  · omega
theorem Box.keepC {G N : Nat} {w w' : World} {g : Nat} {t : TypeId} {cs : Array Value} (hx : Box w g t cs) (h : KeepC G N w w') (hg : g ≠ G) : Box w' g t cs := hx.turn h.turns (notC_box hx hg)
end Go.Proofs.YtjdepjpjjgkmbaaGreat

/- The program's iterator over a list of records, each with whether it is right where it stands (written by iter9.py); conditions: the sizes. -/
namespace Go.Proofs.YtjdepjpjjgkmbaaGreat
open Go Go.RowKit Go.Shelf

attribute [local go_sem] Oper.semAt_some

/-- What a round is handed. -/
def encC (g : GrpD) (ds : List RecD) (L : Nat → Option Addr) (m mc : Nat → Nat) (k : Fin ds.length) : Array Value := #[.agg (cellsC ds[k.val] (L k.val) (m k.val) (mc k.val)), .bool (isAt g ds k.val)]

set_option maxRecDepth 100000 in
set_option maxHeartbeats 16000000 in
theorem recsIter_stops (g : GrpD) (ds : List RecD) (A : Option Addr) (n cap : Nat) (LA : Option Addr) (ln lc : Nat) (L : Nat → Option Addr) (m mc : Nat → Nat) (B1 B2 G N : Nat) (F : Nat → Prop) (w : World)
    (hG1 : B1 ≠ G) (hG2 : B2 ≠ G) (hF : ∀ b, F b → b < N ∧ b ≠ G) (h1 : Box w B1 27 #[.slice LA ln lc]) (h2 : Box w B2 26 #[.int .i64 g.s, .int .i64 g.l, .int .i64 g.c, .int .i64 g.sh, .slice A n cap]) (hm : n ≤ maxLen) (hR : RowF w F A n g.zs) (hD : RecsV ds w F LA ln L m mc) (hln : ln ≤ 1048576) (hmk : ∀ k, k < ds.length → m k ≤ 4194304) :
    SeqStopsK Fence.wide 2 Tryz.prog 217 #[.pointer (some ⟨B1, 0, none⟩), .pointer (some ⟨B2, 0, none⟩)] (encC g ds L m mc) (KeepC G N) (fun ys => ys = List.finRange ds.length) (fun pre => pre <+: List.finRange ds.length) ds.length w := by
  intro l J Jx W hW hJ hJx hY h0
  show CallsIn Fence.wide 2 Tryz.prog 217 #[.func (.yield l) #[] #[], .pointer (some ⟨B1, 0, none⟩), .pointer (some ⟨B2, 0, none⟩)] W _
  replace h1 := Lib.hid (h1.later hW h1.lt)
  replace h2 := Lib.hid (h2.later hW h2.lt)
  replace hR := Lib.hid (hR.turn (T := fun _ => False) (Turns.of_below hW) (fun _ _ h => h))
  replace hD := Lib.hid (hD.turn (T := fun _ => False) (Turns.of_below hW) (fun _ _ h => h))
  have HL := Lib.hid hD.out.1
  have HJ := Lib.hid hJ
  have HM := Lib.hid hm
  have HF := Lib.hid hF
  have HG1 := Lib.hid hG1
  have HG2 := Lib.hid hG2
  have HMK := Lib.hid hmk
  clear hW w hJ hJx hm hF hG1 hG2 hmk
  refine callsIn_of_wp Tryz.func217 rfl trivial ?_ rfl
  simp only [Tryz.ntmps217, List.size_toArray, List.length_cons, List.length_nil, Nat.reduceAdd, Nat.reduceSub, Array.replicate_succ, Array.replicate_zero, List.push_toArray, List.append_toArray, List.nil_append, List.cons_append]
  have c1 : W.cell? ⟨B1, 0, none⟩ = some (.slice LA ln lc) := h1.out.cell 0
  gi_wp2
  gi_loopw [8] (fun i wr => ∃ k : Nat, k ≤ ln ∧ i = .int .i64 k ∧ J (firsts ds.length k) wr ∧ KeepC G N W wr) (fun i _ => ln - (intOf i).toNat)
  case atStart => exact ⟨0, Nat.zero_le _, rfl, h0, KeepC.refl _⟩
  case round =>
    clear c1 h0
    obtain ⟨k, hk, rfl, hJk, ht⟩ := hrel
    have HJk := Lib.hid hJk
    have HT := Lib.hid ht
    clear hJk ht
    by_cases hlt : k < ln
    · skip
      have hkd : k < ds.length := by have := HL.out; omega
      have hDk := hD.out.turn HT.out.turns (fun b hb => notC_low (HF.out b hb).1 (HF.out b hb).2)
      obtain ⟨b, o, hA, hbF, hbl, hcell⟩ := hDk.2 (by omega)
      subst hA
      obtain ⟨hrec, hmm, hps⟩ := hcell k hkd
      clear hcell hDk
      have HRw := Lib.hid (hR.out.turn HT.out.turns (fun b hb => notC_low (HF.out b hb).1 (HF.out b hb).2)).1
      have HX2 := Lib.hid (h2.out.keepC HT.out HG2.out)
      have hIs := isAt_lt (g := g) hkd
      have hmk4 := HMK.out k hkd
      have hYk := fun W1 h => hY (firsts ds.length k) ⟨k, hkd⟩ W1 h (by rw [firsts_len _ _ (by omega)]; exact hkd)
      unfold encC at hYk
      rw [← firsts_snoc] at hYk
      dsimp only at hYk
      obtain ⟨d, hd⟩ : ∃ d : RecD, ds[k] = d := ⟨_, rfl⟩
      rw [hd] at hrec hps hIs hYk
      obtain ⟨Lk, hLk⟩ : ∃ x, L k = x := ⟨_, rfl⟩
      obtain ⟨mk, hmkk⟩ : ∃ x, m k = x := ⟨_, rfl⟩
      obtain ⟨mck, hmck⟩ : ∃ x, mc k = x := ⟨_, rfl⟩
      rw [hLk, hmkk] at hps
      rw [hLk, hmkk, hmck] at hrec hYk
      rw [hmkk] at hmm hmk4
      unfold cellsC at hYk
      have HPw := Lib.hid hps.1
      have HA := Lib.hid hIs
      have HY := Lib.hid hYk
      clear hd hIs hLk hmkk hmck hps hYk
      obtain ⟨c0, c1, c2, c3, c4, c5, c6, c7, c8⟩ := hrec
      have hltI : (k : Int) < (ln : Int) := by omega
      have hkw : IntKind.i64.wrap ((k : Int) + 1) = (k : Int) + 1 := IntWalk.i64_in _ (by omega)
      have ZB := Box.new wr 46 #[.int .i64 0, .int .i64 0, .int .i64 0, .int .i64 0, .int .i64 0, .int .i64 0, .int .i64 0, .slice none 0 0, .int .i64 0]
      have hn := bel_new_row wr #[.int .i64 0, .int .i64 0, .int .i64 0, .int .i64 0, .int .i64 0, .int .i64 0, .int .i64 0, .slice none 0 0, .int .i64 0] 46 #[.int .i64 d.r1, .int .i64 d.r2, .int .i64 d.r3, .int .i64 d.r4, .int .i64 d.r5, .int .i64 d.r6, .int .i64 d.r7, .slice Lk mk mck, .int .i64 d.r8]
      have X := (Box.new wr 46 #[.int .i64 0, .int .i64 0, .int .i64 0, .int .i64 0, .int .i64 0, .int .i64 0, .int .i64 0, .slice none 0 0, .int .i64 0]).setRow #[.int .i64 d.r1, .int .i64 d.r2, .int .i64 d.r3, .int .i64 d.r4, .int .i64 d.r5, .int .i64 d.r6, .int .i64 d.r7, .slice Lk mk mck, .int .i64 d.r8]
      gi_upto_region 3 with (refine wpListIn_store_row (fun _ => trivial) rfl 46 _ _ rfl wr.heap.size _ rfl rfl 46 #[.int .i64 0, .int .i64 0, .int .i64 0, .int .i64 0, .int .i64 0, .int .i64 0, .int .i64 0, .slice none 0 0, .int .i64 0] ZB (by kernel_rfl) rfl (by simp [Value.oneCell']) ?_)
      clear ZB c0 c1 c2 c3 c4 c5 c6 c7 c8 hbl
      try simp only [Act.put]
      have E := hn
      have HX := Lib.hid (HX2.out.later hn HX2.out.lt)
      clear hn HX2
      generalize ((wr.alloc _).setRow _ _ : World) = w1 at E X HX ⊢
      have hV : wr.heap.size = wr.heap.size := rfl
      obtain ⟨V, hVV⟩ : ∃ V, wr.heap.size = V := ⟨_, rfl⟩
      have HE := Lib.hid E
      clear hV E
      rw [hVV] at X ⊢
      have HV := Lib.hid hVV
      clear hVV
      have HK1 := Lib.hid (show True from trivial)
      clear HK1
      by_cases hno : d.r1 = (k : Int) + 1
      rotate_left
      · skip
        have hne : (d.r1 == (k : Int) + 1) = false := by simpa using hno
        have hf : isAt g ds k = false := by rw [HA.out]; simp [hno]
        rw [hf] at HY
        clear hf hno
        refine wpIn_region_sink 12 (fun w' => Box w' V 46 #[.int .i64 d.r1, .int .i64 d.r2, .int .i64 d.r3, .int .i64 d.r4, .int .i64 d.r5, .int .i64 d.r6, .int .i64 d.r7, .slice Lk mk mck, .int .i64 d.r8] ∧ Box w' B2 26 #[.int .i64 g.s, .int .i64 g.l, .int .i64 g.c, .int .i64 g.sh, .slice A n cap]) (by kernel_rfl) ⟨X.later ((Below.refl w1.heap.size w1).drew) X.lt, HX.out.later ((Below.refl w1.heap.size w1).drew) HX.out.lt⟩ (fun hH => ?_)
        replace HE := Lib.hid (bel_trans HE.out (Below.refl w1.heap.size w1).drew)
        clear X HX
        generalize w1.drew = w2 at HE hH ⊢
        refine wpAnyEI_pure (plain_of (fun _ => trivial) (by kernel_rfl)) (i := 0) (v := ?vu0_1) (by simp only [List.getElem?_toArray, List.getElem?_cons_zero]; rfl) (by kernel_rfl) (by kernel_rfl) (by kernel_rfl) (by exact fun _ _ _ h => h) (by kernel_rfl) (Or.inl ⟨by rfl, ?yu0_1⟩) hH ?_
        case yu0_1 => (intro w' hSw; (try dsimp only at hSw); go_simp; try with_reducible rfl)
        try simp only [Act.put, List.setIfInBounds_toArray, List.set_cons_zero, List.set_cons_succ]
        refine wpAnyEI_takeP [] (plain_of (fun _ => trivial) (by kernel_rfl)) (i := 1) (v := .agg #[.int .i64 d.r1, .int .i64 d.r2, .int .i64 d.r3, .int .i64 d.r4, .int .i64 d.r5, .int .i64 d.r6, .int .i64 d.r7, .slice Lk mk mck, .int .i64 d.r8]) (by simp only [List.getElem?_toArray, List.getElem?_cons_succ, List.getElem?_cons_zero]; rfl) (by kernel_rfl) (by kernel_rfl) (by kernel_rfl) (by exact fun _ _ _ h => h) (by kernel_rfl) ?y1 hH ?_
        case y1 => exact yields_box 46 _ rfl (V) rfl 46 #[.int .i64 d.r1, .int .i64 d.r2, .int .i64 d.r3, .int .i64 d.r4, .int .i64 d.r5, .int .i64 d.r6, .int .i64 d.r7, .slice Lk mk mck, .int .i64 d.r8] (fun _ h => h.1) _ Tryz.underlying46 rfl (by kernel_rfl) (by first | rfl | simp [Region.wanted, yielded] | (simp [Region.wanted, yielded, Act.put] <;> omega))
        try simp only [Act.put, List.setIfInBounds_toArray, List.set_cons_zero, List.set_cons_succ]
        refine wpAnyEI_pure (plain_of (fun _ => trivial) (by kernel_rfl)) (i := 2) (v := ?vu2_2) (by simp only [List.getElem?_toArray, List.getElem?_cons_succ, List.getElem?_cons_zero]; rfl) (by kernel_rfl) (by kernel_rfl) (by kernel_rfl) (by exact fun _ _ _ h => h) (by kernel_rfl) (Or.inl ⟨by rfl, ?yu2_2⟩) hH ?_
        case yu2_2 => (intro w' hSw; (try dsimp only at hSw); go_simp; try with_reducible rfl)
        try simp only [Act.put, List.setIfInBounds_toArray, List.set_cons_zero, List.set_cons_succ]
        refine wpAnyEI_takeP [6, 7, 11] (plain_of (fun _ => trivial) (by kernel_rfl)) (i := 3) (v := .int .i64 d.r1) (by simp only [List.getElem?_toArray, List.getElem?_cons_succ, List.getElem?_cons_zero]; rfl) (by kernel_rfl) (by kernel_rfl) (by kernel_rfl) (by exact fun _ _ _ h => h) (by kernel_rfl) (Or.inl ⟨(by first | rfl | simp [Region.wanted, yielded] | (simp [Region.wanted, yielded, Act.put] <;> omega)), ?y3⟩) hH ?_
        case y3 => (intro w' hSw; have hc0 : w'.cell? ⟨V, 0, none⟩ = some (.int .i64 d.r1) := hSw.1.cell 0; clear hSw; go_simp; try with_reducible rfl)
        try simp only [Act.put, List.setIfInBounds_toArray, List.set_cons_zero, List.set_cons_succ]
        refine wpAnyEI_pure (plain_of (fun _ => trivial) (by kernel_rfl)) (i := 4) (v := ?vu4_3) (by simp only [List.getElem?_toArray, List.getElem?_cons_succ, List.getElem?_cons_zero]; rfl) (by kernel_rfl) (by kernel_rfl) (by kernel_rfl) (by exact fun _ _ _ h => h) (by kernel_rfl) (Or.inl ⟨by rfl, ?yu4_3⟩) hH ?_
        case yu4_3 => (intro w' hSw; (try dsimp only at hSw); go_simp; try with_reducible rfl)
        try simp only [Act.put, List.setIfInBounds_toArray, List.set_cons_zero, List.set_cons_succ]
        refine wpAnyEI_pure (plain_of (fun _ => trivial) (by kernel_rfl)) (i := 5) (v := ?vu5_4) (by simp only [List.getElem?_toArray, List.getElem?_cons_succ, List.getElem?_cons_zero]; rfl) (by kernel_rfl) (by kernel_rfl) (by kernel_rfl) (by exact fun _ _ _ h => h) (by kernel_rfl) (Or.inl ⟨by rfl, ?yu5_4⟩) hH ?_
        case yu5_4 => (intro w' hSw; (try dsimp only at hSw); go_simp; try with_reducible rfl)
        try simp only [Act.put, List.setIfInBounds_toArray, List.set_cons_zero, List.set_cons_succ]
        refine wpAnyEI_pure (plain_of (fun _ => trivial) (by kernel_rfl)) (i := 6) (v := ?vu6_5) (by simp only [List.getElem?_toArray, List.getElem?_cons_succ, List.getElem?_cons_zero]; rfl) (by kernel_rfl) (by kernel_rfl) (by kernel_rfl) (by exact fun _ _ _ h => h) (by kernel_rfl) (Or.inl ⟨by rfl, ?yu6_5⟩) hH ?_
        case yu6_5 => (intro w' hSw; (try dsimp only at hSw); go_simp; try with_reducible rfl)
        try simp only [Act.put, List.setIfInBounds_toArray, List.set_cons_zero, List.set_cons_succ]
        refine wpAnyEI_pure (plain_of (fun _ => trivial) (by kernel_rfl)) (i := 7) (v := ?vu7_6) (by simp only [List.getElem?_toArray, List.getElem?_cons_succ, List.getElem?_cons_zero]; rfl) (by kernel_rfl) (by kernel_rfl) (by kernel_rfl) (by exact fun _ _ _ h => h) (by kernel_rfl) (Or.inl ⟨by rfl, ?yu7_6⟩) hH ?_
        case yu7_6 => (intro w' hSw; (try dsimp only at hSw); go_simp; try with_reducible rfl)
        try simp only [Act.put, List.setIfInBounds_toArray, List.set_cons_zero, List.set_cons_succ]
        refine wpAnyEI_pure (plain_of (fun _ => trivial) (by kernel_rfl)) (i := 8) (v := undef) (by simp only [List.getElem?_toArray, List.getElem?_cons_succ, List.getElem?_cons_zero]; rfl) (by kernel_rfl) (by kernel_rfl) (by kernel_rfl) (by exact fun _ _ _ h => h) (by kernel_rfl) (Or.inr ⟨(by first | rfl | simp [Region.wanted, yielded] | (simp [Region.wanted, yielded, Act.put] <;> omega)), rfl⟩) hH ?_
        try simp only [Act.put, List.setIfInBounds_toArray, List.set_cons_zero, List.set_cons_succ]
        refine wpAnyEI_pure (plain_of (fun _ => trivial) (by kernel_rfl)) (i := 9) (v := undef) (by simp only [List.getElem?_toArray, List.getElem?_cons_succ, List.getElem?_cons_zero]; rfl) (by kernel_rfl) (by kernel_rfl) (by kernel_rfl) (by exact fun _ _ _ h => h) (by kernel_rfl) (Or.inr ⟨(by first | rfl | simp [Region.wanted, yielded] | (simp [Region.wanted, yielded, Act.put] <;> omega)), rfl⟩) hH ?_
        try simp only [Act.put, List.setIfInBounds_toArray, List.set_cons_zero, List.set_cons_succ]
        refine wpAnyEI_pure (plain_of (fun _ => trivial) (by kernel_rfl)) (i := 10) (v := undef) (by simp only [List.getElem?_toArray, List.getElem?_cons_succ, List.getElem?_cons_zero]; rfl) (by kernel_rfl) (by kernel_rfl) (by kernel_rfl) (by exact fun _ _ _ h => h) (by kernel_rfl) (Or.inr ⟨(by first | rfl | simp [Region.wanted, yielded] | (simp [Region.wanted, yielded, Act.put] <;> omega)), rfl⟩) hH ?_
        try simp only [Act.put, List.setIfInBounds_toArray, List.set_cons_zero, List.set_cons_succ]
        refine wpAnyEI_pure (plain_of (fun _ => trivial) (by kernel_rfl)) (i := 11) (v := ?vu11_7) (by simp only [List.getElem?_toArray, List.getElem?_cons_succ, List.getElem?_cons_zero]; rfl) (by kernel_rfl) (by kernel_rfl) (by kernel_rfl) (by exact fun _ _ _ h => h) (by kernel_rfl) (Or.inl ⟨by rfl, ?yu11_7⟩) hH ?_
        case yu11_7 => (intro w' hSw; (try dsimp only at hSw); go_simp; try with_reducible rfl)
        try simp only [Act.put, List.setIfInBounds_toArray, List.set_cons_zero, List.set_cons_succ]
        obtain ⟨fnY, tmpsY, assignY, bodyY, hy, hRd⟩ := HY.out w2 (AbidesFrom.later HJ.out HJk.out HE.out)
        refine wpAnyEI_any (i := 12) (by kernel_rfl) (by simp only [List.getElem?_toArray, List.getElem?_cons_succ, List.getElem?_cons_zero]; rfl) (by kernel_rfl) (fun K' hK => ?_)
        clear hH
        go_simp
        refine hRd.mono ?_
        rintro e W3 (⟨rfl, hJ3, hk3⟩ | ⟨rfl, hJx3⟩)
        · skip
          refine hK.out _ _ ?_
          clear hK K' hy hRd
          try simp only [Act.put, List.setIfInBounds_toArray, List.set_cons_zero, List.set_cons_succ]
          refine wpAnyEI_any (i := 13) (by kernel_rfl) (by simp only [List.getElem?_toArray, List.getElem?_cons_succ, List.getElem?_cons_zero]; rfl) (by kernel_rfl) (fun K' hK => ?_)
          go_simp
          refine hK.out _ _ (wpAnyEI_nil (by kernel_rfl) ?_)
          clear hK K'
          try simp only [Act.put, List.setIfInBounds_toArray, List.set_cons_zero, List.set_cons_succ]
          have HK3 := Lib.hid ((KeepC.of_below (G := G) (N := N) HE.out).trans hk3)
          have HJ3 := Lib.hid hJ3
          clear hJ3 hk3 HE
          gi_wp2
          go_roundw
          case rel => exact ⟨k + 1, by omega, by go_num, HJ3.out, HT.out.trans HK3.out⟩
          case measure => simp [intOf]; omega
        · skip
          refine hK.out _ _ ?_
          clear hK K' hy hRd
          try simp only [Act.put, List.setIfInBounds_toArray, List.set_cons_zero, List.set_cons_succ]
          refine wpAnyEI_any (i := 13) (by kernel_rfl) (by simp only [List.getElem?_toArray, List.getElem?_cons_succ, List.getElem?_cons_zero]; rfl) (by kernel_rfl) (fun K' hK => ?_)
          go_simp
          refine hK.out _ _ (wpAnyEI_nil (by kernel_rfl) ?_)
          clear hK K'
          try simp only [Act.put, List.setIfInBounds_toArray, List.set_cons_zero, List.set_cons_succ]
          have HJ3 := Lib.hid hJx3
          clear hJx3 HE
          gi_wp2
          refine bodyPost_ret (results_none rfl _ _ _) rfl ?_
          exact ⟨⟨_, rfl⟩, .inr ⟨firsts ds.length (k + 1), firsts_pre _ _, HJ3.out⟩⟩
      have hne : (d.r1 == (k : Int) + 1) = true := by simpa using hno
      obtain ⟨z, hz⟩ : ∃ z, rokD g d = z := ⟨_, rfl⟩
      have hf : isAt g ds k = z := by rw [HA.out, hz]; simp [hno]
      rw [hf] at HY
      have HB : Hid (rokB g.s g.l g.c g.sh g.zs d.r1 d.r2 d.r3 d.r4 d.r5 d.r6 d.r7 d.ps d.r8 = z) := Lib.hid hz
      clear hf hno hz HA
      refine wpIn_region_sink 12 (fun w' => Box w' V 46 #[.int .i64 d.r1, .int .i64 d.r2, .int .i64 d.r3, .int .i64 d.r4, .int .i64 d.r5, .int .i64 d.r6, .int .i64 d.r7, .slice Lk mk mck, .int .i64 d.r8] ∧ Box w' B2 26 #[.int .i64 g.s, .int .i64 g.l, .int .i64 g.c, .int .i64 g.sh, .slice A n cap]) (by kernel_rfl) ⟨X.later ((Below.refl w1.heap.size w1).drew) X.lt, HX.out.later ((Below.refl w1.heap.size w1).drew) HX.out.lt⟩ (fun hH => ?_)
      replace HE := Lib.hid (bel_trans HE.out (Below.refl w1.heap.size w1).drew)
      clear X HX
      generalize w1.drew = w2 at HE hH ⊢
      refine wpAnyEI_pure (plain_of (fun _ => trivial) (by kernel_rfl)) (i := 0) (v := ?vu0_8) (by simp only [List.getElem?_toArray, List.getElem?_cons_zero]; rfl) (by kernel_rfl) (by kernel_rfl) (by kernel_rfl) (by exact fun _ _ _ h => h) (by kernel_rfl) (Or.inl ⟨by rfl, ?yu0_8⟩) hH ?_
      case yu0_8 => (intro w' hSw; (try dsimp only at hSw); go_simp; try with_reducible rfl)
      try simp only [Act.put, List.setIfInBounds_toArray, List.set_cons_zero, List.set_cons_succ]
      refine wpAnyEI_takeP [] (plain_of (fun _ => trivial) (by kernel_rfl)) (i := 1) (v := .agg #[.int .i64 d.r1, .int .i64 d.r2, .int .i64 d.r3, .int .i64 d.r4, .int .i64 d.r5, .int .i64 d.r6, .int .i64 d.r7, .slice Lk mk mck, .int .i64 d.r8]) (by simp only [List.getElem?_toArray, List.getElem?_cons_succ, List.getElem?_cons_zero]; rfl) (by kernel_rfl) (by kernel_rfl) (by kernel_rfl) (by exact fun _ _ _ h => h) (by kernel_rfl) ?y1 hH ?_
      case y1 => exact yields_box 46 _ rfl (V) rfl 46 #[.int .i64 d.r1, .int .i64 d.r2, .int .i64 d.r3, .int .i64 d.r4, .int .i64 d.r5, .int .i64 d.r6, .int .i64 d.r7, .slice Lk mk mck, .int .i64 d.r8] (fun _ h => h.1) _ Tryz.underlying46 rfl (by kernel_rfl) (by first | rfl | simp [Region.wanted, yielded] | (simp [Region.wanted, yielded, Act.put] <;> omega))
      try simp only [Act.put, List.setIfInBounds_toArray, List.set_cons_zero, List.set_cons_succ]
      refine wpAnyEI_pure (plain_of (fun _ => trivial) (by kernel_rfl)) (i := 2) (v := ?vu2_9) (by simp only [List.getElem?_toArray, List.getElem?_cons_succ, List.getElem?_cons_zero]; rfl) (by kernel_rfl) (by kernel_rfl) (by kernel_rfl) (by exact fun _ _ _ h => h) (by kernel_rfl) (Or.inl ⟨by rfl, ?yu2_9⟩) hH ?_
      case yu2_9 => (intro w' hSw; (try dsimp only at hSw); go_simp; try with_reducible rfl)
      try simp only [Act.put, List.setIfInBounds_toArray, List.set_cons_zero, List.set_cons_succ]
      refine wpAnyEI_takeP [6, 7, 11] (plain_of (fun _ => trivial) (by kernel_rfl)) (i := 3) (v := .int .i64 d.r1) (by simp only [List.getElem?_toArray, List.getElem?_cons_succ, List.getElem?_cons_zero]; rfl) (by kernel_rfl) (by kernel_rfl) (by kernel_rfl) (by exact fun _ _ _ h => h) (by kernel_rfl) (Or.inl ⟨(by first | rfl | simp [Region.wanted, yielded] | (simp [Region.wanted, yielded, Act.put] <;> omega)), ?y3⟩) hH ?_
      case y3 => (intro w' hSw; have hc0 : w'.cell? ⟨V, 0, none⟩ = some (.int .i64 d.r1) := hSw.1.cell 0; clear hSw; go_simp; try with_reducible rfl)
      try simp only [Act.put, List.setIfInBounds_toArray, List.set_cons_zero, List.set_cons_succ]
      refine wpAnyEI_pure (plain_of (fun _ => trivial) (by kernel_rfl)) (i := 4) (v := ?vu4_10) (by simp only [List.getElem?_toArray, List.getElem?_cons_succ, List.getElem?_cons_zero]; rfl) (by kernel_rfl) (by kernel_rfl) (by kernel_rfl) (by exact fun _ _ _ h => h) (by kernel_rfl) (Or.inl ⟨by rfl, ?yu4_10⟩) hH ?_
      case yu4_10 => (intro w' hSw; (try dsimp only at hSw); go_simp; try with_reducible rfl)
      try simp only [Act.put, List.setIfInBounds_toArray, List.set_cons_zero, List.set_cons_succ]
      refine wpAnyEI_pure (plain_of (fun _ => trivial) (by kernel_rfl)) (i := 5) (v := ?vu5_11) (by simp only [List.getElem?_toArray, List.getElem?_cons_succ, List.getElem?_cons_zero]; rfl) (by kernel_rfl) (by kernel_rfl) (by kernel_rfl) (by exact fun _ _ _ h => h) (by kernel_rfl) (Or.inl ⟨by rfl, ?yu5_11⟩) hH ?_
      case yu5_11 => (intro w' hSw; (try dsimp only at hSw); go_simp; try with_reducible rfl)
      try simp only [Act.put, List.setIfInBounds_toArray, List.set_cons_zero, List.set_cons_succ]
      refine wpAnyEI_pure (plain_of (fun _ => trivial) (by kernel_rfl)) (i := 6) (v := ?vu6_12) (by simp only [List.getElem?_toArray, List.getElem?_cons_succ, List.getElem?_cons_zero]; rfl) (by kernel_rfl) (by kernel_rfl) (by kernel_rfl) (by exact fun _ _ _ h => h) (by kernel_rfl) (Or.inl ⟨by rfl, ?yu6_12⟩) hH ?_
      case yu6_12 => (intro w' hSw; (try dsimp only at hSw); go_simp; try with_reducible rfl)
      try simp only [Act.put, List.setIfInBounds_toArray, List.set_cons_zero, List.set_cons_succ]
      refine wpAnyEI_pure (plain_of (fun _ => trivial) (by kernel_rfl)) (i := 7) (v := ?vu7_13) (by simp only [List.getElem?_toArray, List.getElem?_cons_succ, List.getElem?_cons_zero]; rfl) (by kernel_rfl) (by kernel_rfl) (by kernel_rfl) (by exact fun _ _ _ h => h) (by kernel_rfl) (Or.inl ⟨by rfl, ?yu7_13⟩) hH ?_
      case yu7_13 => (intro w' hSw; (try dsimp only at hSw); go_simp; try with_reducible rfl)
      try simp only [Act.put, List.setIfInBounds_toArray, List.set_cons_zero, List.set_cons_succ]
      refine wpAnyEI_takeP [10, 11] (plain_of (fun _ => trivial) (by kernel_rfl)) (i := 8) (v := .agg #[.int .i64 g.s, .int .i64 g.l, .int .i64 g.c, .int .i64 g.sh, .slice A n cap]) (by simp only [List.getElem?_toArray, List.getElem?_cons_succ, List.getElem?_cons_zero]; rfl) (by kernel_rfl) (by kernel_rfl) (by kernel_rfl) (by exact fun _ _ _ h => h) (by kernel_rfl) ?y8 hH ?_
      case y8 => exact yields_box 26 _ rfl (B2) rfl 26 #[.int .i64 g.s, .int .i64 g.l, .int .i64 g.c, .int .i64 g.sh, .slice A n cap] (fun _ h => h.2) _ Tryz.underlying26 rfl (by kernel_rfl) (by first | rfl | simp [Region.wanted, yielded] | (simp [Region.wanted, yielded, Act.put] <;> omega))
      try simp only [Act.put, List.setIfInBounds_toArray, List.set_cons_zero, List.set_cons_succ]
      refine wpAnyEI_takeP [10, 11] (plain_of (fun _ => trivial) (by kernel_rfl)) (i := 9) (v := .agg #[.int .i64 d.r1, .int .i64 d.r2, .int .i64 d.r3, .int .i64 d.r4, .int .i64 d.r5, .int .i64 d.r6, .int .i64 d.r7, .slice Lk mk mck, .int .i64 d.r8]) (by simp only [List.getElem?_toArray, List.getElem?_cons_succ, List.getElem?_cons_zero]; rfl) (by kernel_rfl) (by kernel_rfl) (by kernel_rfl) (by exact fun _ _ _ h => h) (by kernel_rfl) ?y9 hH ?_
      case y9 => exact yields_box 46 _ rfl (V) rfl 46 #[.int .i64 d.r1, .int .i64 d.r2, .int .i64 d.r3, .int .i64 d.r4, .int .i64 d.r5, .int .i64 d.r6, .int .i64 d.r7, .slice Lk mk mck, .int .i64 d.r8] (fun _ h => h.1) _ Tryz.underlying46 rfl (by kernel_rfl) (by first | rfl | simp [Region.wanted, yielded] | (simp [Region.wanted, yielded, Act.put] <;> omega))
      try simp only [Act.put, List.setIfInBounds_toArray, List.set_cons_zero, List.set_cons_succ]
      refine wpAnyEI_one (i := 10) (by kernel_rfl) (by simp only [List.getElem?_toArray, List.getElem?_cons_succ, List.getElem?_cons_zero]; rfl) (fun K' hK => ?_)
      have HH := Lib.hid hH
      clear hH
      go_simp
      refine ⟨trivial, ?_⟩
      refine (callsIn_wide.2 (recOk_is HB.out A n cap Lk mk mck w2 HM.out ((HRw.out.below HE.out (Nat.le_refl _)).more HE.out.size) hmk4 (HPw.out.later HE.out))).mono ?_
      rintro e w3 ⟨rfl, hb⟩
      replace HE := Lib.hid (bel_trans HE.out hb)
      refine hK.out _ _ ⟨HH.out.1.later hb HH.out.1.lt, HH.out.2.later hb HH.out.2.lt⟩ (fun hH => ?_)
      clear hK K' HH hb
      try simp only [Act.put, List.setIfInBounds_toArray, List.set_cons_zero, List.set_cons_succ]
      refine wpAnyEI_pure (plain_of (fun _ => trivial) (by kernel_rfl)) (i := 11) (v := ?vu11_14) (by simp only [List.getElem?_toArray, List.getElem?_cons_succ, List.getElem?_cons_zero]; rfl) (by kernel_rfl) (by kernel_rfl) (by kernel_rfl) (by exact fun _ _ _ h => h) (by kernel_rfl) (Or.inl ⟨by rfl, ?yu11_14⟩) hH ?_
      case yu11_14 => (intro w' hSw; (try dsimp only at hSw); go_simp; try with_reducible rfl)
      try simp only [Act.put, List.setIfInBounds_toArray, List.set_cons_zero, List.set_cons_succ]
      obtain ⟨fnY, tmpsY, assignY, bodyY, hy, hRd⟩ := HY.out w3 (AbidesFrom.later HJ.out HJk.out HE.out)
      refine wpAnyEI_any (i := 12) (by kernel_rfl) (by simp only [List.getElem?_toArray, List.getElem?_cons_succ, List.getElem?_cons_zero]; rfl) (by kernel_rfl) (fun K' hK => ?_)
      clear hH
      go_simp
      refine hRd.mono ?_
      rintro e W3 (⟨rfl, hJ3, hk3⟩ | ⟨rfl, hJx3⟩)
      · skip
        refine hK.out _ _ ?_
        clear hK K' hy hRd
        try simp only [Act.put, List.setIfInBounds_toArray, List.set_cons_zero, List.set_cons_succ]
        refine wpAnyEI_any (i := 13) (by kernel_rfl) (by simp only [List.getElem?_toArray, List.getElem?_cons_succ, List.getElem?_cons_zero]; rfl) (by kernel_rfl) (fun K' hK => ?_)
        go_simp
        refine hK.out _ _ (wpAnyEI_nil (by kernel_rfl) ?_)
        clear hK K'
        try simp only [Act.put, List.setIfInBounds_toArray, List.set_cons_zero, List.set_cons_succ]
        have HK3 := Lib.hid ((KeepC.of_below (G := G) (N := N) HE.out).trans hk3)
        have HJ3 := Lib.hid hJ3
        clear hJ3 hk3 HE
        gi_wp2
        go_roundw
        case rel => exact ⟨k + 1, by omega, by go_num, HJ3.out, HT.out.trans HK3.out⟩
        case measure => simp [intOf]; omega
      · skip
        refine hK.out _ _ ?_
        clear hK K' hy hRd
        try simp only [Act.put, List.setIfInBounds_toArray, List.set_cons_zero, List.set_cons_succ]
        refine wpAnyEI_any (i := 13) (by kernel_rfl) (by simp only [List.getElem?_toArray, List.getElem?_cons_succ, List.getElem?_cons_zero]; rfl) (by kernel_rfl) (fun K' hK => ?_)
        go_simp
        refine hK.out _ _ (wpAnyEI_nil (by kernel_rfl) ?_)
        clear hK K'
        try simp only [Act.put, List.setIfInBounds_toArray, List.set_cons_zero, List.set_cons_succ]
        have HJ3 := Lib.hid hJx3
        clear hJx3 HE
        gi_wp2
        refine bodyPost_ret (results_none rfl _ _ _) rfl ?_
        exact ⟨⟨_, rfl⟩, .inr ⟨firsts ds.length (k + 1), firsts_pre _ _, HJ3.out⟩⟩
    have hkn : k = ln := by omega
    subst hkn
    gi_wp2
    go_end0
    exact ⟨⟨_, rfl⟩, .inl ⟨_, by rw [← firsts_all, HL.out], HJk.out⟩⟩

end Go.Proofs.YtjdepjpjjgkmbaaGreat

/- A block of shelves of one's own: each with its lists in blocks of its own; read, written, made anew; no conditions. -/
namespace Go.Proofs.YtjdepjpjjgkmbaaGreat
open Go Go.RowKit

theorem turns_cell5 (w : World) (g o : Nat) (u : Value) : Turns (· = g) w (w.setCell ⟨g, o, none⟩ u) :=
  ⟨rfl, rfl, rfl, by rw [size_set]; exact Nat.le_refl _, fun i _ hne => Below.heap_setCell w ⟨g, o, none⟩ u i hne⟩
/-- The block g holds these shelves; the lists of the one at place i lie in blocks of Fs i, apart from all others'. -/
structure RegsAt (P : RegD → World → (Nat → Prop) → Value → Prop) (w : World) (g : Nat) (rs : List RegD) (Fs : Nat → Nat → Prop) : Prop where
  blk : ∃ cs, Box w g 80 cs ∧ cs.size = rs.length * 5 ∧ ∀ i (h : i < rs.length), ∃ u v, cs[i * 5]? = some (.int .i64 (rs[i]).t) ∧ cs[i * 5 + 1]? = some (.int .i64 (rs[i]).q) ∧ cs[i * 5 + 2]? = some (.int .i64 (rs[i]).v) ∧ cs[i * 5 + 3]? = some u ∧ cs[i * 5 + 4]? = some v ∧
    P rs[i] w (Fs i) (.agg #[.int .i64 (rs[i]).t, .int .i64 (rs[i]).q, .int .i64 (rs[i]).v, u, v])
  apart : ∀ i, i < rs.length → ∀ b, Fs i b → b ≠ g
  two : ∀ i j, i < rs.length → j < rs.length → i ≠ j → ∀ b, Fs i b → ¬ Fs j b
section
variable {P : RegD → World → (Nat → Prop) → Value → Prop}
theorem RegsAt.lt {w : World} {g : Nat} {rs : List RegD} {Fs : Nat → Nat → Prop} (h : RegsAt P w g rs Fs) : g < w.heap.size := by
  obtain ⟨cs, hb, _⟩ := h.blk
  exact hb.lt
variable (kp : ∀ d, Keeps (P d))
include kp in
theorem RegsAt.turn {w w' : World} {g : Nat} {rs : List RegD} {Fs : Nat → Nat → Prop} {T : Nat → Prop} (h : RegsAt P w g rs Fs) (ht : Turns T w w') (hg : ¬ T g) (hF : ∀ i, i < rs.length → ∀ b, Fs i b → ¬ T b) : RegsAt P w' g rs Fs := by
  obtain ⟨cs, hb, hs, hc⟩ := h.blk
  refine ⟨⟨cs, hb.turn ht hg, hs, fun i hi => ?_⟩, h.apart, h.two⟩
  obtain ⟨u, v, c0, c1, c2, c3, c4, hL⟩ := hc i hi
  exact ⟨u, v, c0, c1, c2, c3, c4, (kp _).turn hL ht (hF i hi)⟩
include kp in
theorem RegsAt.later {w w' : World} {g : Nat} {rs : List RegD} {Fs : Nat → Nat → Prop} (h : RegsAt P w g rs Fs) (hb : Below w.heap.size w w') : RegsAt P w' g rs Fs :=
  RegsAt.turn kp h (T := fun _ => False) (Turns.of_below hb) (fun h => h) (fun _ _ _ _ h => h)
/-- One of them, read: its cells, and what they are. -/
theorem RegsAt.get {w : World} {g : Nat} {rs : List RegD} {Fs : Nat → Nat → Prop} (h : RegsAt P w g rs Fs) {i : Nat} (hi : i < rs.length) :
    ∃ u v, w.cell? ⟨g, i * 5, none⟩ = some (.int .i64 (rs[i]).t) ∧ w.cell? ⟨g, i * 5 + 1, none⟩ = some (.int .i64 (rs[i]).q) ∧ w.cell? ⟨g, i * 5 + 2, none⟩ = some (.int .i64 (rs[i]).v) ∧ w.cell? ⟨g, i * 5 + 3, none⟩ = some u ∧ w.cell? ⟨g, i * 5 + 4, none⟩ = some v ∧
      P rs[i] w (Fs i) (.agg #[.int .i64 (rs[i]).t, .int .i64 (rs[i]).q, .int .i64 (rs[i]).v, u, v]) := by
  obtain ⟨cs, hb, hs, hc⟩ := h.blk
  obtain ⟨u, v, c0, c1, c2, c3, c4, hL⟩ := hc i hi
  exact ⟨u, v, (hb.cell _).trans c0, (hb.cell _).trans c1, (hb.cell _).trans c2, (hb.cell _).trans c3, (hb.cell _).trans c4, hL⟩
theorem RegsAt.frozen {w : World} {g : Nat} {rs : List RegD} {Fs : Nat → Nat → Prop} (h : RegsAt P w g rs Fs) (o : Nat) : w.frozen? ⟨g, o, none⟩ = false := by
  obtain ⟨cs, hb, _⟩ := h.blk
  exact hb.frozen o
theorem set5 (cs : Array Value) (i : Nat) (x0 x1 x2 x3 x4 : Value) (h : i * 5 + 4 < cs.size) (cs' : Array Value) (hcs : cs' = ((((cs.setIfInBounds (i * 5) x0).setIfInBounds (i * 5 + 1) x1).setIfInBounds (i * 5 + 2) x2).setIfInBounds (i * 5 + 3) x3).setIfInBounds (i * 5 + 4) x4) :
    cs'.size = cs.size ∧ (cs'[i * 5]? = some x0 ∧ cs'[i * 5 + 1]? = some x1 ∧ cs'[i * 5 + 2]? = some x2 ∧ cs'[i * 5 + 3]? = some x3 ∧ cs'[i * 5 + 4]? = some x4) ∧ ∀ k, (k < i * 5 ∨ i * 5 + 4 < k) → cs'[k]? = cs[k]? := by
  subst hcs
  refine ⟨by simp, ⟨?_, ?_, ?_, ?_, ?_⟩, fun k hk => ?_⟩
  all_goals simp only [Array.getElem?_setIfInBounds, Array.size_setIfInBounds]
  · rw [if_neg (by omega), if_neg (by omega), if_neg (by omega), if_neg (by omega), if_pos trivial, if_pos (by omega)]
  · rw [if_neg (by omega), if_neg (by omega), if_neg (by omega), if_pos trivial, if_pos (by omega)]
  · rw [if_neg (by omega), if_neg (by omega), if_pos trivial, if_pos (by omega)]
  · rw [if_neg (by omega), if_pos trivial, if_pos (by omega)]
  · rw [if_pos trivial, if_pos (by omega)]
  · rw [if_neg (by omega), if_neg (by omega), if_neg (by omega), if_neg (by omega), if_neg (by omega)]
def upF (Fs : Nat → Nat → Prop) (i : Nat) (F : Nat → Prop) : Nat → Nat → Prop := fun j => if j = i then F else Fs j
include kp in
/-- One of them is written anew. -/
theorem RegsAt.put {w : World} {g : Nat} {rs : List RegD} {Fs : Nat → Nat → Prop} (h : RegsAt P w g rs Fs) {i : Nat} (hi : i < rs.length) {d : RegD} {F : Nat → Prop} {u v : Value} (hL : P d w F (.agg #[.int .i64 d.t, .int .i64 d.q, .int .i64 d.v, u, v])) (hg : ∀ b, F b → b ≠ g) (ho : ∀ j, j < rs.length → j ≠ i → ∀ b, F b → ¬ Fs j b) :
    RegsAt P (((((w.setCell ⟨g, i * 5, none⟩ (.int .i64 d.t)).setCell ⟨g, i * 5 + 1, none⟩ (.int .i64 d.q)).setCell ⟨g, i * 5 + 2, none⟩ (.int .i64 d.v)).setCell ⟨g, i * 5 + 3, none⟩ u).setCell ⟨g, i * 5 + 4, none⟩ v) g (rs.set i d) (upF Fs i F) := by
  obtain ⟨cs, hb, hs, hc⟩ := h.blk
  have hb' := ((((hb.set (i * 5) (.int .i64 d.t)).set (i * 5 + 1) (.int .i64 d.q)).set (i * 5 + 2) (.int .i64 d.v)).set (i * 5 + 3) u).set (i * 5 + 4) v
  obtain ⟨s1, ⟨n0, n1, n2, n3, n4⟩, s3⟩ := set5 cs i (.int .i64 d.t) (.int .i64 d.q) (.int .i64 d.v) u v (by omega) _ rfl
  have t5 : Turns (· = g) w (((((w.setCell ⟨g, i * 5, none⟩ (.int .i64 d.t)).setCell ⟨g, i * 5 + 1, none⟩ (.int .i64 d.q)).setCell ⟨g, i * 5 + 2, none⟩ (.int .i64 d.v)).setCell ⟨g, i * 5 + 3, none⟩ u).setCell ⟨g, i * 5 + 4, none⟩ v) :=
    ((((turns_cell5 w g _ _).trans (turns_cell5 _ g _ _)).trans (turns_cell5 _ g _ _)).trans (turns_cell5 _ g _ _)).trans (turns_cell5 _ g _ _)
  refine ⟨⟨_, hb', by rw [s1, hs, List.length_set], fun j hj => ?_⟩, fun j hj b hbj => ?_, fun j k hj hk hjk b hbj hbk => ?_⟩
  · rw [List.length_set] at hj
    by_cases e : j = i
    · subst e
      simp only [List.getElem_set_self]
      refine ⟨u, v, n0, n1, n2, n3, n4, ?_⟩
      simp only [upF, if_true]
      exact (kp d).turn hL t5 hg
    · simp only [List.getElem_set_ne (Ne.symm e)]
      obtain ⟨u', v', c0, c1, c2, c3, c4, hLj⟩ := hc j hj
      refine ⟨u', v', (s3 _ (by omega)).trans c0, (s3 _ (by omega)).trans c1, (s3 _ (by omega)).trans c2, (s3 _ (by omega)).trans c3, (s3 _ (by omega)).trans c4, ?_⟩
      simp only [upF, if_neg e]
      exact (kp _).turn hLj t5 (h.apart j hj)
  · rw [List.length_set] at hj
    unfold upF at hbj
    split at hbj
    · exact hg b hbj
    · exact h.apart j hj b hbj
  · rw [List.length_set] at hj hk
    unfold upF at hbj hbk
    split at hbj <;> split at hbk
    · omega
    · exact ho k hk (by assumption) b hbj hbk
    · exact ho j hj (by assumption) b hbk hbj
    · exact h.two j k hj hk hjk b hbj hbk
/-- Shelves of one's own behind lo: no list lies below it. -/
def RegsOwn (P : RegD → World → (Nat → Prop) → Value → Prop) (w : World) (g lo : Nat) (rs : List RegD) : Prop :=
  lo ≤ g ∧ ∃ Fs, RegsAt P w g rs Fs ∧ ∀ i, i < rs.length → ∀ b, Fs i b → lo ≤ b ∧ b < w.heap.size
include kp in
theorem RegsOwn.turn {w w' : World} {g lo : Nat} {rs : List RegD} {T : Nat → Prop} (h : RegsOwn P w g lo rs) (ht : Turns T w w') (hT : ∀ b, T b → b < lo) : RegsOwn P w' g lo rs := by
  obtain ⟨hg, Fs, hR, hF⟩ := h
  exact ⟨hg, Fs, RegsAt.turn kp hR ht (fun h => by have := hT _ h; omega) (fun i hi b hb hb2 => by have := hT b hb2; have := (hF i hi b hb).1; omega), fun i hi b hb => ⟨(hF i hi b hb).1, Nat.lt_of_lt_of_le (hF i hi b hb).2 ht.size⟩⟩
include kp in
theorem RegsOwn.later {w w' : World} {g lo : Nat} {rs : List RegD} (h : RegsOwn P w g lo rs) (hb : Below w.heap.size w w') : RegsOwn P w' g lo rs := RegsOwn.turn kp h (T := fun _ => False) (Turns.of_below hb) (fun _ h => h.elim)
include kp in
/-- One of them is written anew, with new lists. -/
theorem RegsOwn.put {w w1 : World} {g lo : Nat} {rs : List RegD} (h : RegsOwn P w g lo rs) (hb : Below w.heap.size w w1) {i : Nat} (hi : i < rs.length) {d : RegD} {u v : Value} (hL : P d w1 (Iv w.heap.size w1.heap.size) (.agg #[.int .i64 d.t, .int .i64 d.q, .int .i64 d.v, u, v])) :
    RegsOwn P (((((w1.setCell ⟨g, i * 5, none⟩ (.int .i64 d.t)).setCell ⟨g, i * 5 + 1, none⟩ (.int .i64 d.q)).setCell ⟨g, i * 5 + 2, none⟩ (.int .i64 d.v)).setCell ⟨g, i * 5 + 3, none⟩ u).setCell ⟨g, i * 5 + 4, none⟩ v) g lo (rs.set i d) := by
  obtain ⟨hg, Fs, hR, hF⟩ := h
  have hlt := hR.lt
  have hR1 := RegsAt.later kp hR hb
  refine ⟨hg, _, RegsAt.put kp hR1 hi hL (fun b hb1 => by have := hb1.1; omega) (fun j hj _ b hb1 hb2 => by have := hb1.1; have := (hF j hj b hb2).2; omega), fun j hj b hb1 => ?_⟩
  rw [List.length_set] at hj
  simp only [size_set]
  unfold upF at hb1
  split at hb1
  · exact ⟨by have := hb1.1; omega, hb1.2⟩
  · have := hF j hj b hb1
    have := hb.size
    omega
end
/-- A value reads as a shelf, whose lists the model can take parts of. -/
def AtW (d : RegD) (w : World) (F : Nat → Prop) (v : Value) : Prop :=
  ∃ (A : Option Addr) (n cap : Nat) (A' : Option Addr) (n' cap' : Nat), v = .agg #[.int .i64 d.t, .int .i64 d.q, .int .i64 d.v, .slice A n cap, .slice A' n' cap'] ∧ n ≤ maxLen ∧ n' ≤ maxLen ∧ PairsF w F A n d.ps ∧ QuadsF w F A' n' d.os ∧
    ((∃ b o, A = some ⟨b, o, none⟩) ∨ (A = none ∧ n = 0 ∧ cap = 0)) ∧ ((∃ b o, A' = some ⟨b, o, none⟩ ∧ n' ≤ cap' ∧ cap' ≤ maxLen) ∨ (A' = none ∧ n' = 0 ∧ cap' = 0))
theorem AtW.at {d : RegD} {w : World} {F : Nat → Prop} {v : Value} (h : AtW d w F v) : AtR d w F v := by
  obtain ⟨A, n, cap, A', n', cap', e, h1, h2, h3, h4, -⟩ := h
  exact ⟨A, n, cap, A', n', cap', e, h1, h2, h3, h4⟩
theorem keepsW (d : RegD) : Keeps (AtW d) :=
  ⟨fun ⟨A, n, c, A', n', c', e, h1, h2, h3, h4, h5⟩ ht hd => ⟨A, n, c, A', n', c', e, h1, h2, h3.turn ht hd, h4.turn ht hd, h5⟩, fun ⟨A, n, c, A', n', c', e, h1, h2, h3, h4, h5⟩ hs => ⟨A, n, c, A', n', c', e, h1, h2, ⟨h3.1, fun hn b o e => hs b (h3.2 hn b o e)⟩, ⟨h4.1, fun hn b o e => hs b (h4.2 hn b o e)⟩, h5⟩⟩
theorem AtW.slc {d : RegD} {w : World} {F : Nat → Prop} {u v : Value} (h : AtW d w F (.agg #[.int .i64 d.t, .int .i64 d.q, .int .i64 d.v, u, v])) : ∃ (A : Option Addr) (n c : Nat) (A' : Option Addr) (n' c' : Nat), u = .slice A n c ∧ v = .slice A' n' c' ∧ Slc w (.slice A n c) d.ps ∧ SlcQ w (.slice A' n' c') d.os ∧ d.ps.length = n ∧ d.os.length = n' := by
  obtain ⟨A, n, c, A', n', c', e, h1, h2, h3, h4, h5, h6⟩ := h
  have l1 : d.ps.length = n := h3.1.1
  have l2 : d.os.length = n' := h4.1.1
  injection e with e
  injection e with e
  simp only [List.cons.injEq, and_true, true_and] at e
  refine ⟨A, n, c, A', n', c', e.1, e.2, ?_, ?_, l1, l2⟩
  · rcases h5 with ⟨b, o, rfl⟩ | ⟨rfl, rfl, rfl⟩
    · exact .inr ⟨b, o, n, c, rfl, h3.1⟩
    · exact .inl ⟨rfl, List.eq_nil_of_length_eq_zero l1⟩
  · rcases h6 with ⟨b, o, rfl, h7, h8⟩ | ⟨rfl, rfl, rfl⟩
    · exact .inr ⟨b, o, n', c', rfl, h7, h8, h4.1⟩
    · exact .inl ⟨rfl, List.eq_nil_of_length_eq_zero l2⟩
theorem LieR.atW {d : RegD} {w : World} {F : Nat → Prop} {v : Value} (h : LieR d w F v) : AtW d w F v := by
  obtain ⟨A, n, c, A', n', c', lo, B, hi, e, h1, h2, o1, o2, o3, hF⟩ := h
  have h := LieR.at ⟨A, n, c, A', n', c', lo, B, hi, e, h1, h2, o1, o2, o3, hF⟩
  obtain ⟨A1, n1, c1, A1', n1', c1', e1, m1, m2, p1, p2⟩ := h
  rw [e] at e1
  injection e1 with e1
  injection e1 with e1
  simp only [List.cons.injEq, Value.slice.injEq, and_true, true_and] at e1
  obtain ⟨⟨rfl, rfl, rfl⟩, rfl, rfl, rfl⟩ := e1
  refine ⟨A, n, c, A', n', c', e, m1, m2, p1, p2, ?_, ?_⟩
  · rcases h1 with ⟨h, _⟩ | ⟨g, cap, _, _, h, _⟩
    · injection h with a b c
      exact .inr ⟨a, b, c⟩
    · injection h with a b c
      exact .inl ⟨g, 0, a⟩
  · rcases h2 with ⟨h, _⟩ | ⟨g, cap, _, _, h, h3, h4, _⟩
    · injection h with a b c
      exact .inr ⟨a, b, c⟩
    · injection h with a b c
      exact .inl ⟨g, 0, a, by omega, by omega⟩
/-- Shelves that nothing was done to yet. -/
theorem regs_new (P : RegD → World → (Nat → Prop) → Value → Prop) (hz : ∀ w, P ⟨0, 0, 0, [], []⟩ w (fun _ => False) (.agg #[.int .i64 0, .int .i64 0, .int .i64 0, .slice none 0 0, .slice none 0 0])) (w : World) (n : Nat) :
    RegsOwn P (w.alloc (.cells (madeCells #[.int .i64 0, .int .i64 0, .int .i64 0, .slice none 0 0, .slice none 0 0] (n * 5)) 80)) w.heap.size w.heap.size (List.replicate n ⟨0, 0, 0, [], []⟩) := by
  refine ⟨Nat.le_refl _, fun _ _ => False, ⟨⟨_, Box.new w _ _, by simp [size_madeCells], fun i hi => ?_⟩, fun _ _ _ h => h.elim, fun _ _ _ _ _ _ h => h.elim⟩, fun _ _ _ h => h.elim⟩
  rw [List.length_replicate] at hi
  simp only [List.getElem_replicate]
  refine ⟨.slice none 0 0, .slice none 0 0, ?_, ?_, ?_, ?_, ?_, hz _⟩
  · simp [madeCells, show i * 5 < n * 5 by omega]
  · simp [madeCells, show i * 5 + 1 < n * 5 by omega, show (i * 5 + 1) % 5 = 1 by omega]
  · simp [madeCells, show i * 5 + 2 < n * 5 by omega, show (i * 5 + 2) % 5 = 2 by omega]
  · simp [madeCells, show i * 5 + 3 < n * 5 by omega, show (i * 5 + 3) % 5 = 3 by omega]
  · simp [madeCells, show i * 5 + 4 < n * 5 by omega, show (i * 5 + 4) % 5 = 4 by omega]
theorem zeroW (w : World) : AtW ⟨0, 0, 0, [], []⟩ w (fun _ => False) (.agg #[.int .i64 0, .int .i64 0, .int .i64 0, .slice none 0 0, .slice none 0 0]) :=
  ⟨none, 0, 0, none, 0, 0, rfl, Nat.zero_le _, Nat.zero_le _, ⟨⟨rfl, fun h => absurd h (by omega)⟩, fun h => absurd h (by omega)⟩, ⟨⟨rfl, fun h => absurd h (by omega)⟩, fun h => absurd h (by omega)⟩, .inr ⟨rfl, rfl, rfl⟩, .inr ⟨rfl, rfl, rfl⟩⟩
theorem zeroL (w : World) : LieR ⟨0, 0, 0, [], []⟩ w (fun _ => False) (.agg #[.int .i64 0, .int .i64 0, .int .i64 0, .slice none 0 0, .slice none 0 0]) :=
  ⟨none, 0, 0, none, 0, 0, 0, 0, 0, rfl, .inl ⟨rfl, rfl⟩, .inl ⟨rfl, rfl⟩, Nat.le_refl _, Nat.le_refl _, Nat.zero_le _, fun b hb => by unfold Iv at hb; omega⟩
end Go.Proofs.YtjdepjpjjgkmbaaGreat

/- What the program's Replayed carries from round to round: shelves that abide whatever a loop over a function does to its own blocks; how long they can get; no conditions. -/
namespace Go.Proofs.YtjdepjpjjgkmbaaGreat
open Go Go.RowKit Go.Shelf

/-- Whatever was cells lies as it lay. -/
structure CellsK (w w' : World) : Prop where
  size : w.heap.size ≤ w'.heap.size
  block : ∀ (i : Nat) (o : Obj), w.heap[i]? = some o → o.isCells = true → w'.heap[i]? = some o
theorem CellsK.same {w w' : World} (h : CellsK w w') {a : Addr} {v : Value} (hc : w.cell? a = some v) : w'.heap[a.block]? = w.heap[a.block]? := by
  unfold World.cell? at hc
  rcases ho : w.heap[a.block]? with _ | o
  · rw [ho] at hc; cases hc
  · rw [ho] at hc
    cases o with
    | cells c e f => exact h.block _ _ ho rfl
    | _ => simp at hc
theorem CellsK.cell {w w' : World} (h : CellsK w w') {a : Addr} {v : Value} (hc : w.cell? a = some v) : w'.cell? a = some v := (World.cell?_of_block (h.same hc)).trans hc
theorem CellsK.box {w w' : World} (h : CellsK w w') {g : Nat} {t : TypeId} {cs : Array Value} (hx : Box w g t cs) : Box w' g t cs := h.block g _ hx rfl
theorem CellsK.held {w w' : World} (h : CellsK w w') {g : Nat} {d : List (Int × Int)} (hx : Held w g d) (hd : 0 < d.length) : Held w' g d := by
  have hs := h.same (hx.at0 0 hd)
  exact ⟨Nat.lt_of_lt_of_le hx.lt h.size, fun o => (World.frozen?_of_block (a := ⟨g, o, none⟩) hs).trans (hx.fr o), fun i hi => (World.cell?_of_block (a := ⟨g, i * 2, none⟩) hs).trans (hx.at0 i hi), fun i hi => (World.cell?_of_block (a := ⟨g, i * 2 + 1, none⟩) hs).trans (hx.at1 i hi)⟩
theorem CellsK.heldQ {w w' : World} (h : CellsK w w') {g : Nat} {d : List Opn} (hx : HeldQ w g d) (hd : 0 < d.length) : HeldQ w' g d := by
  have hs := h.same (hx.cs 0 hd).1
  exact hx.keep (Nat.lt_of_lt_of_le hx.lt h.size) (fun o => World.frozen?_of_block (a := ⟨g, o, none⟩) hs) (fun o => World.cell?_of_block (a := ⟨g, o, none⟩) hs)
theorem cellsK_own {w w' : World} {row : Option Nat} (hg : w.grownBy w' row) (hr : ∀ r, row = some r → ∃ o : Obj, w.heap[r]? = some o ∧ o.isCells = false) : CellsK w w' :=
  ⟨hg.size, fun i o hi hc => (hg.block i (Array.getElem?_eq_some_iff.1 hi).1 (fun e => by
    obtain ⟨o', ho, hc'⟩ := hr i e.symm
    rw [hi] at ho
    injection ho with ho
    subst ho
    rw [hc] at hc'
    cases hc')).trans hi⟩

/-- A list in a block of its own, or an empty one. -/
def ResE (w : World) (lo hi : Nat) (u : Value) (D : List (Int × Int)) : Prop :=
  (u = .slice none 0 0 ∧ D = []) ∨ ∃ g cap, lo ≤ g ∧ g < hi ∧ u = .slice (some ⟨g, 0, none⟩) D.length cap ∧ D.length ≤ cap ∧ cap ≤ maxLen ∧ (0 < D.length → Held w g D)
def ResEQ (w : World) (lo hi : Nat) (u : Value) (D : List Opn) : Prop :=
  (u = .slice none 0 0 ∧ D = []) ∨ ∃ g cap, lo ≤ g ∧ g < hi ∧ u = .slice (some ⟨g, 0, none⟩) D.length cap ∧ D.length ≤ cap ∧ cap ≤ maxLen ∧ (0 < D.length → HeldQ w g D)
theorem ResE.turn {T : Nat → Prop} {w w' : World} {lo hi : Nat} {v : Value} {ps : List (Int × Int)} (h : ResE w lo hi v ps) (ht : Turns T w w') (hd : ∀ b, Iv lo hi b → ¬ T b) : ResE w' lo hi v ps := by
  rcases h with h | ⟨g, cap, h0, h0', h1, h2, h3, h4⟩
  · exact .inl h
  · exact .inr ⟨g, cap, h0, h0', h1, h2, h3, fun hp => (h4 hp).turn ht (hd g ⟨h0, h0'⟩)⟩
theorem ResEQ.turn {T : Nat → Prop} {w w' : World} {lo hi : Nat} {v : Value} {ps : List Opn} (h : ResEQ w lo hi v ps) (ht : Turns T w w') (hd : ∀ b, Iv lo hi b → ¬ T b) : ResEQ w' lo hi v ps := by
  rcases h with h | ⟨g, cap, h0, h0', h1, h2, h3, h4⟩
  · exact .inl h
  · exact .inr ⟨g, cap, h0, h0', h1, h2, h3, fun hp => (h4 hp).turn ht (hd g ⟨h0, h0'⟩)⟩
theorem ResE.cells {w w' : World} {lo hi : Nat} {v : Value} {ps : List (Int × Int)} (h : ResE w lo hi v ps) (hk : CellsK w w') : ResE w' lo hi v ps := by
  rcases h with h | ⟨g, cap, h0, h0', h1, h2, h3, h4⟩
  · exact .inl h
  · exact .inr ⟨g, cap, h0, h0', h1, h2, h3, fun hp => hk.held (h4 hp) hp⟩
theorem ResEQ.cells {w w' : World} {lo hi : Nat} {v : Value} {ps : List Opn} (h : ResEQ w lo hi v ps) (hk : CellsK w w') : ResEQ w' lo hi v ps := by
  rcases h with h | ⟨g, cap, h0, h0', h1, h2, h3, h4⟩
  · exact .inl h
  · exact .inr ⟨g, cap, h0, h0', h1, h2, h3, fun hp => hk.heldQ (h4 hp) hp⟩
theorem ResE.slc {w : World} {lo hi : Nat} {A : Option Addr} {n c : Nat} {ps : List (Int × Int)} (h : ResE w lo hi (.slice A n c) ps) : Slc w (.slice A n c) ps ∧ ps.length = n := by
  rcases h with ⟨h, rfl⟩ | ⟨g, cap, h0, h0', h1, h2, h3, h4⟩
  · injection h with h1 h2 h3
    exact ⟨.inl ⟨by rw [h1, h2, h3], rfl⟩, h2.symm⟩
  · injection h1 with e1 e2 e3
    subst e1 e2 e3
    refine ⟨.inr ⟨g, 0, _, _, rfl, ?_⟩, rfl⟩
    by_cases hp : 0 < ps.length
    · exact (h4 hp).pairs
    · exact ⟨rfl, fun h => absurd h hp⟩
theorem ResEQ.slc {w : World} {lo hi : Nat} {A : Option Addr} {n c : Nat} {ps : List Opn} (h : ResEQ w lo hi (.slice A n c) ps) : SlcQ w (.slice A n c) ps ∧ ps.length = n := by
  rcases h with ⟨h, rfl⟩ | ⟨g, cap, h0, h0', h1, h2, h3, h4⟩
  · injection h with h1 h2 h3
    exact ⟨.inl ⟨by rw [h1, h2, h3], rfl⟩, h2.symm⟩
  · injection h1 with e1 e2 e3
    subst e1 e2 e3
    refine ⟨.inr ⟨g, 0, _, _, rfl, h2, h3, ?_⟩, rfl⟩
    by_cases hp : 0 < ps.length
    · exact (h4 hp).quads
    · exact ⟨rfl, fun h => absurd h hp⟩
/-- A shelf of one's own, but for empty lists. -/
def LieE (d : RegD) (w : World) (F : Nat → Prop) (v : Value) : Prop := ∃ (A : Option Addr) (n c : Nat) (A' : Option Addr) (n' c' lo B hi : Nat), v = .agg #[.int .i64 d.t, .int .i64 d.q, .int .i64 d.v, .slice A n c, .slice A' n' c'] ∧ ResE w lo B (.slice A n c) d.ps ∧ ResEQ w B hi (.slice A' n' c') d.os ∧ lo ≤ B ∧ B ≤ hi ∧ hi ≤ w.heap.size ∧ ∀ b, Iv lo hi b → F b
theorem keepsLE (d : RegD) : Keeps (LieE d) :=
  ⟨fun ⟨A, n, c, A', n', c', lo, B, hi, e, h1, h2, o1, o2, o3, hF⟩ ht hd => ⟨A, n, c, A', n', c', lo, B, hi, e, h1.turn ht (fun b hb => hd b (hF b (iv_sub (Nat.le_refl _) o2 b hb))), h2.turn ht (fun b hb => hd b (hF b (iv_sub o1 (Nat.le_refl _) b hb))), o1, o2, Nat.le_trans o3 ht.size, hF⟩,
   fun ⟨A, n, c, A', n', c', lo, B, hi, e, h1, h2, o1, o2, o3, hF⟩ hs => ⟨A, n, c, A', n', c', lo, B, hi, e, h1, h2, o1, o2, o3, fun b hb => hs b (hF b hb)⟩⟩
theorem LieE.cells {d : RegD} {w w' : World} {F : Nat → Prop} {v : Value} (h : LieE d w F v) (hk : CellsK w w') : LieE d w' F v := by
  obtain ⟨A, n, c, A', n', c', lo, B, hi, e, h1, h2, o1, o2, o3, hF⟩ := h
  exact ⟨A, n, c, A', n', c', lo, B, hi, e, h1.cells hk, h2.cells hk, o1, o2, Nat.le_trans o3 hk.size, hF⟩
theorem LieR.lieE {d : RegD} {w : World} {F : Nat → Prop} {v : Value} (h : LieR d w F v) : LieE d w F v := by
  obtain ⟨A, n, c, A', n', c', lo, B, hi, e, h1, h2, o1, o2, o3, hF⟩ := h
  refine ⟨A, n, c, A', n', c', lo, B, hi, e, ?_, ?_, o1, o2, o3, hF⟩
  · rcases h1 with h | ⟨g, cap, h0, h0', h1, h2, h3, h4⟩
    · exact .inl h
    · exact .inr ⟨g, cap, h0, h0', h1, h2, h3, fun _ => h4⟩
  · rcases h2 with h | ⟨g, cap, h0, h0', h1, h2, h3, h4⟩
    · exact .inl h
    · exact .inr ⟨g, cap, h0, h0', h1, h2, h3, fun _ => h4⟩
theorem zeroE (w : World) : LieE ⟨0, 0, 0, [], []⟩ w (fun _ => False) (.agg #[.int .i64 0, .int .i64 0, .int .i64 0, .slice none 0 0, .slice none 0 0]) := (zeroL w).lieE
theorem LieE.slc {d : RegD} {w : World} {F : Nat → Prop} {u v : Value} (h : LieE d w F (.agg #[.int .i64 d.t, .int .i64 d.q, .int .i64 d.v, u, v])) : ∃ (A : Option Addr) (n c : Nat) (A' : Option Addr) (n' c' : Nat), u = .slice A n c ∧ v = .slice A' n' c' ∧ Slc w (.slice A n c) d.ps ∧ SlcQ w (.slice A' n' c') d.os ∧ d.ps.length = n ∧ d.os.length = n' := by
  obtain ⟨A, n, c, A', n', c', lo, B, hi, e, h1, h2, -⟩ := h
  injection e with e
  injection e with e
  simp only [List.cons.injEq, and_true, true_and] at e
  exact ⟨A, n, c, A', n', c', e.1, e.2, h1.slc.1, h2.slc.1, h1.slc.2, h2.slc.2⟩
theorem RegsOwn.cells {w w' : World} {G lo : Nat} {rs : List RegD} (h : RegsOwn LieE w G lo rs) (hk : CellsK w w') : RegsOwn LieE w' G lo rs := by
  obtain ⟨hg, Fs, hR, hF⟩ := h
  refine ⟨hg, Fs, ⟨?_, hR.apart, hR.two⟩, fun i hi b hb => ⟨(hF i hi b hb).1, Nat.lt_of_lt_of_le (hF i hi b hb).2 hk.size⟩⟩
  obtain ⟨cs, hb, hs, hc⟩ := hR.blk
  refine ⟨cs, hk.box hb, hs, fun i hi => ?_⟩
  obtain ⟨u, v, c0, c1, c2, c3, c4, hL⟩ := hc i hi
  exact ⟨u, v, c0, c1, c2, c3, c4, hL.cells hk⟩

/-- The shelves behind these rounds, in whatever order they came. -/
def shI (g : GrpD) (ds : List RecD) (pre : List (Fin ds.length)) : List RegD := pre.foldl (fun rs k => stepR g rs ds[k.val]) (List.replicate g.sh.toNat zeroR)
theorem shI_snoc (g : GrpD) (ds : List RecD) (pre : List (Fin ds.length)) (x : Fin ds.length) : shI g ds (pre ++ [x]) = stepR g (shI g ds pre) ds[x.val] := by
  unfold shI
  rw [List.foldl_append, List.foldl_cons, List.foldl_nil]
theorem shI_len (g : GrpD) (ds : List RecD) (pre : List (Fin ds.length)) : (shI g ds pre).length = g.sh.toNat := by
  have key : ∀ (pre : List (Fin ds.length)) (rs : List RegD), (pre.foldl (fun rs k => stepR g rs ds[k.val]) rs).length = rs.length := by
    intro pre
    induction pre with
    | nil => intro rs; rfl
    | cons d pre ih => intro rs; rw [List.foldl_cons, ih, stepR_len]
  unfold shI
  rw [key, List.length_replicate]
theorem shI_all (g : GrpD) (ds : List RecD) : shI g ds (List.finRange ds.length) = shelves g ds := by
  have key : ∀ k, k ≤ ds.length → shI g ds (firsts ds.length k) = shelves g (ds.take k) := by
    intro k
    induction k with
    | zero => intro _; rfl
    | succ k ih => intro hk; rw [firsts_snoc _ _ (by omega), shI_snoc, ih (by omega), shelves_snoc g ds (by omega)]
  have h := key ds.length (Nat.le_refl _)
  rw [firsts_all, List.take_length] at h
  exact h
theorem onto_len2 (g : GrpD) (d : RecD) (r : RegD) {M n : Nat} (h1 : r.ps.length ≤ M) (h2 : d.ps.length ≤ M) (h3 : r.os.length ≤ n) : (ontoD g d r).ps.length ≤ M ∧ (ontoD g d r).os.length ≤ n + 1 := by
  unfold ontoD
  split
  · have := withO_len r.os (d.r4, d.r5, d.r6, d.r7)
    show r.ps.length ≤ M ∧ (withO r.os (d.r4, d.r5, d.r6, d.r7)).length ≤ n + 1
    omega
  · unfold outW
    simp only
    split
    · simp
    split
    · exact ⟨h1, show r.os.length ≤ n + 1 by omega⟩
    split
    · have := goodP_le (rB g.s g.l g.c g.sh g.zs 1 d.r3 d.r5 d.r6 d.r7) d.ps
      show (goodP (rB g.s g.l g.c g.sh g.zs 1 d.r3 d.r5 d.r6 d.r7) d.ps).length ≤ M ∧ r.os.length ≤ n + 1
      omega
    · exact ⟨h1, show r.os.length ≤ n + 1 by omega⟩
theorem regOf_step (g : GrpD) (rs : List RegD) (d : RecD) (i : Nat) : regOf (stepR g rs d) i = regOf rs i ∨ regOf (stepR g rs d) i = ontoD g d (regOf rs i) := by
  unfold stepR
  by_cases hi : d.r3.toNat = i
  · subst hi
    by_cases hl : d.r3.toNat < rs.length
    · exact .inr (by simp [regOf, hl])
    · exact .inl (by rw [List.set_eq_of_length_le (by omega)])
  · exact .inl (by simp [regOf, hi])
theorem shI_sz (g : GrpD) (ds : List RecD) {M : Nat} (hM : ∀ k (h : k < ds.length), (ds[k]).ps.length ≤ M) (pre : List (Fin ds.length)) (i : Nat) : (regOf (shI g ds pre) i).ps.length ≤ M ∧ (regOf (shI g ds pre) i).os.length ≤ pre.length := by
  have key : ∀ (pre : List (Fin ds.length)) (rs : List RegD) (n : Nat), (∀ i, (regOf rs i).ps.length ≤ M ∧ (regOf rs i).os.length ≤ n) → ∀ i, (regOf (pre.foldl (fun rs k => stepR g rs ds[k.val]) rs) i).ps.length ≤ M ∧ (regOf (pre.foldl (fun rs k => stepR g rs ds[k.val]) rs) i).os.length ≤ n + pre.length := by
    intro pre
    induction pre with
    | nil => intro rs n h i; exact h i
    | cons k pre ih =>
      intro rs n h i
      have := ih (stepR g rs ds[k.val]) (n + 1) (fun i => by
        rcases regOf_step g rs ds[k.val] i with e | e
        · rw [e]; have := h i; omega
        · rw [e]; exact onto_len2 g _ _ (h i).1 (hM k.val k.isLt) (h i).2) i
      rw [List.foldl_cons, List.length_cons]
      omega
  have := key pre (List.replicate g.sh.toNat zeroR) 0 (fun i => by
    have h : regOf (List.replicate g.sh.toNat zeroR) i = zeroR := by
      unfold regOf
      simp only [List.getD_eq_getElem?_getD, List.getElem?_replicate]
      split <;> rfl
    rw [h]
    exact ⟨Nat.zero_le _, Nat.le_refl _⟩) i
  rw [Nat.zero_add] at this
  exact this
end Go.Proofs.YtjdepjpjjgkmbaaGreat

/- What the model's draw of a right group leaves: a right group with keys of its own; the cursor is a right one. -/
namespace Go.Proofs.YtjdepjpjjgkmbaaGreat
open Go.RowKit

end Go.Proofs.YtjdepjpjjgkmbaaGreat

/- What the model's draw of any group leaves: a group whose keys can be read; the cursor is a right one. -/
namespace Go.Proofs.YtjdepjpjjgkmbaaGreat
open Go.RowKit

theorem Row.kept {w w' : World} {q o n : Nat} {zs : List Int} {r : Option Nat} (h : Row w w.heap.size (some ⟨q, o, none⟩) n zs) (hg : w.grownBy w' r) (hr : r ≠ some q) : Row w' w'.heap.size (some ⟨q, o, none⟩) n zs := by
  refine ⟨h.1, fun hn => ?_⟩
  obtain ⟨b, o', hA, hb, hc⟩ := h.2 hn
  cases hA
  exact ⟨_, _, rfl, Nat.lt_of_lt_of_le hb hg.size, fun i hi => (World.cell?_of_block (a := ⟨q, o + i, none⟩) (hg.block q hb (fun e => hr e.symm))).trans (hc i hi)⟩
theorem Row.put {w : World} {q n : Nat} {zs : List Int} (h : Row w w.heap.size (some ⟨q, 0, none⟩) n zs) (y : Int) : Row (w.setCell ⟨q, 0, none⟩ (.int .i64 y)) (w.setCell ⟨q, 0, none⟩ (.int .i64 y)).heap.size (some ⟨q, 0, none⟩) n (zs.set 0 y) := by
  refine ⟨by rw [List.length_set]; exact h.1, fun hn => ?_⟩
  obtain ⟨b, o', hA, hb, hc⟩ := h.2 hn
  cases hA
  refine ⟨_, _, rfl, by rw [size_set]; exact hb, fun i hi => ?_⟩
  have hl := h.1
  rcases i with _ | i
  · have h0 := hc 0 hn
    have h1 := World.cell?_setCell_same' w ⟨q, 0, none⟩ (.int .i64 y) (by rw [show (⟨q, 0, none⟩ : Addr) = ⟨q, 0 + 0, none⟩ from rfl, h0]; rfl)
    rw [show nth (zs.set 0 y) 0 = y by simp [nth, show 0 < zs.length by omega]]
    exact h1
  · rw [World.cell?_setCell_other _ _ _ _ (by intro e; injection e with _ e; omega), hc (i + 1) hi]
    simp [nth]

end Go.Proofs.YtjdepjpjjgkmbaaGreat

/- What the model's draw of a group, a claim and a seal out of the code leaves: the three, the keys can be read; the bytes can be read. -/
namespace Go.Proofs.YtjdepjpjjgkmbaaGreat
open Go.RowKit

theorem Row.keptB {w w' : World} {B q o n : Nat} {zs : List Int} {r : Option Nat} (h : Row w B (some ⟨q, o, none⟩) n zs) (hB : B ≤ w.heap.size) (hg : w.grownBy w' r) (hr : ∀ k, r = some k → B ≤ k ∨ k ≠ q) : Row w' B (some ⟨q, o, none⟩) n zs := by
  refine ⟨h.1, fun hn => ?_⟩
  obtain ⟨b, o', hA, hb, hc⟩ := h.2 hn
  cases hA
  refine ⟨_, _, rfl, hb, fun i hi => (World.cell?_of_block (a := ⟨q, o + i, none⟩) (hg.block q (by omega) (fun e => ?_))).trans (hc i hi)⟩
  rcases hr _ e.symm with h | h
  · omega
  · exact h rfl
theorem Box.far5 {w : World} {g R : Nat} {t : TypeId} {cs : Array Value} (h : Box w g t cs) (hR : R ≠ g) (u0 u1 u2 u3 u4 : Value) : Box (((((w.setCell ⟨R, 0, none⟩ u0).setCell ⟨R, 1, none⟩ u1).setCell ⟨R, 2, none⟩ u2).setCell ⟨R, 3, none⟩ u3).setCell ⟨R, 4, none⟩ u4) g t cs :=
  ((((h.far (p := ⟨R, 0, none⟩) hR u0).far (p := ⟨R, 1, none⟩) hR u1).far (p := ⟨R, 2, none⟩) hR u2).far (p := ⟨R, 3, none⟩) hR u3).far (p := ⟨R, 4, none⟩) hR u4
theorem Row.far {w : World} {B q o n : Nat} {zs : List Int} (h : Row w B (some ⟨q, o, none⟩) n zs) {p : Addr} (hp : B ≤ p.block) (u : Value) : Row (w.setCell p u) B (some ⟨q, o, none⟩) n zs :=
  h.keep fun a ha => World.cell?_setCell_other _ _ _ _ (fun e => by rw [e] at hp; omega)

/-- A group, a claim and a seal, drawn, in variables of their own; the results' places are still empty. -/
structure Three (w0 w : World) (P Q S q o m cap' : Nat) (s l c sh : Int) (zs : List Int) (ck ch ct cq cv x t : Int) : Prop where
  gr : Box w P 26 #[.int .i64 s, .int .i64 l, .int .i64 c, .int .i64 sh, .slice (some ⟨q, o, none⟩) m cap']
  cl : Box w Q 180 #[.int .i64 ck, .int .i64 ch, .int .i64 ct, .int .i64 cq, .int .i64 cv]
  se : Box w S 136 #[.int .i64 x, .int .i64 t]
  r1 : Box w w0.heap.size 26 #[.int .i64 0, .int .i64 0, .int .i64 0, .int .i64 0, .slice none 0 0]
  r2 : Box w (w0.heap.size + 1) 180 #[.int .i64 0, .int .i64 0, .int .i64 0, .int .i64 0, .int .i64 0]
  r3 : Box w (w0.heap.size + 1 + 1) 136 #[.int .i64 0, .int .i64 0]
  row : Row w P (some ⟨q, o, none⟩) m zs
  bel : Below w0.heap.size w0 w
  h1 : w0.heap.size + 1 + 1 < P
  h2 : P < Q
  h3 : Q < S

theorem Three.kept {w0 w w' : World} {P Q S q o m cap' g : Nat} {s l c sh : Int} {zs : List Int} {ck ch ct cq cv x t : Int} (h : Three w0 w P Q S q o m cap' s l c sh zs ck ch ct cq cv x t)
    (hg : w.grownBy w' (some g)) (h1 : w0.heap.size + 1 + 1 < g) (h2 : g < P) (h3 : g ≠ q) : Three w0 w' P Q S q o m cap' s l c sh zs ck ch ct cq cv x t := by
  have a1 := h.h1
  have a2 := h.h2
  have a3 := h.h3
  have a4 := h.gr.lt
  exact ⟨h.gr.kept hg (by intro e; injection e with e; omega), h.cl.kept hg (by intro e; injection e with e; omega), h.se.kept hg (by intro e; injection e with e; omega), h.r1.kept hg (by intro e; injection e with e; omega), h.r2.kept hg (by intro e; injection e with e; omega), h.r3.kept hg (by intro e; injection e with e; omega),
    h.row.keptB (by omega) hg (fun k hk => by injection hk with hk; exact .inr (by omega)), bel_grown h.bel hg (by omega), a1, a2, a3⟩
theorem Three.who {w0 w : World} {P Q S q o m cap' : Nat} {s l c sh : Int} {zs : List Int} {ck ch ct cq cv x t : Int} (h : Three w0 w P Q S q o m cap' s l c sh zs ck ch ct cq cv x t) (y : Int) :
    Three w0 (w.setCell ⟨S, 0, none⟩ (.int .i64 y)) P Q S q o m cap' s l c sh zs ck ch ct cq cv y t := by
  have a1 := h.h1
  have a2 := h.h2
  have a3 := h.h3
  exact ⟨h.gr.far (p := ⟨S, 0, none⟩) (by show S ≠ _; omega) _, h.cl.far (p := ⟨S, 0, none⟩) (by show S ≠ _; omega) _, h.se.set 0 _, h.r1.far (p := ⟨S, 0, none⟩) (by show S ≠ _; omega) _, h.r2.far (p := ⟨S, 0, none⟩) (by show S ≠ _; omega) _, h.r3.far (p := ⟨S, 0, none⟩) (by show S ≠ _; omega) _,
    h.row.far (p := ⟨S, 0, none⟩) (by show P ≤ S; omega) _, h.bel.setCell (p := ⟨S, 0, none⟩) (by show _ ≤ S; omega) _, a1, a2, a3⟩
theorem Three.value {w0 w : World} {P Q S q o m cap' : Nat} {s l c sh : Int} {zs : List Int} {ck ch ct cq cv x t : Int} (h : Three w0 w P Q S q o m cap' s l c sh zs ck ch ct cq cv x t) (y : Int) :
    Three w0 (w.setCell ⟨Q, 4, none⟩ (.int .i64 y)) P Q S q o m cap' s l c sh zs ck ch ct cq y x t := by
  have a1 := h.h1
  have a2 := h.h2
  have a3 := h.h3
  exact ⟨h.gr.far (p := ⟨Q, 4, none⟩) (by show Q ≠ _; omega) _, h.cl.set 4 _, h.se.far (p := ⟨Q, 4, none⟩) (by show Q ≠ _; omega) _, h.r1.far (p := ⟨Q, 4, none⟩) (by show Q ≠ _; omega) _, h.r2.far (p := ⟨Q, 4, none⟩) (by show Q ≠ _; omega) _, h.r3.far (p := ⟨Q, 4, none⟩) (by show Q ≠ _; omega) _,
    h.row.far (p := ⟨Q, 4, none⟩) (by show P ≤ Q; omega) _, h.bel.setCell (p := ⟨Q, 4, none⟩) (by show _ ≤ Q; omega) _, a1, a2, a3⟩

end Go.Proofs.YtjdepjpjjgkmbaaGreat

/- What the model's draw of seals out of the code leaves: at most twenty of them; the bytes can be read. -/
namespace Go.Proofs.YtjdepjpjjgkmbaaGreat
open Go.RowKit

/-- What the drawing of seals keeps: the cursor, the group, the claim, the seals so far. -/
structure SealsAt (w wr : World) (g : Nat) (A : Option Addr) (n cap : Nat) (s l c sh : Int) (q o m cap' : Nat) (zs : List Int) (ck ch ct cq cv : Int) (p pc : Nat) (ps : List (Int × Int)) : Prop where
  cur : Cur wr 169 .i64 g A n cap
  grw : w.grownBy wr (some g)
  gr : Box wr w.heap.size 26 #[.int .i64 s, .int .i64 l, .int .i64 c, .int .i64 sh, .slice (some ⟨q, o, none⟩) m cap']
  cl : Box wr (w.heap.size + 1) 180 #[.int .i64 ck, .int .i64 ch, .int .i64 ct, .int .i64 cq, .int .i64 cv]
  own : wr.ownsRow (w.heap.size + 2) 136 2 (.slice (some ⟨p, 0, none⟩) ps.length pc) ps.length (flatP ps)
  row : Row wr w.heap.size (some ⟨q, o, none⟩) m zs
section
variable {w wr w' : World} {g : Nat} {A : Option Addr} {n cap : Nat} {s l c sh : Int} {q o m cap' : Nat} {zs : List Int} {ck ch ct cq cv : Int} {p pc : Nat} {ps : List (Int × Int)}
theorem SealsAt.later (h : SealsAt w wr g A n cap s l c sh q o m cap' zs ck ch ct cq cv p pc ps) (hb : Below wr.heap.size wr w') : SealsAt w w' g A n cap s l c sh q o m cap' zs ck ch ct cq cv p pc ps :=
  ⟨h.cur.kept (grown_bel hb none) (fun q hq => by cases hq), grown_trans h.grw (grown_bel hb _), h.gr.later hb h.gr.lt, h.cl.later hb h.cl.lt, h.own.kept (grown_bel hb none) (by simp [Value.ownBlock]), h.row.below hb h.grw.size⟩
theorem SealsAt.push {a b : Int} {ob : Obj} {gg cap2 : Nat} (h : SealsAt w wr g A n cap s l c sh q o m cap' zs ck ch ct cq cv p pc ps)
    (hown : w'.ownsRow (w.heap.size + 2) 136 2 (.slice (some ⟨gg, 0, none⟩) (ps.length + 1) cap2) (ps.length + 1) (flatP ps ++ [.int .i64 a, .int .i64 b])) (hg : (wr.alloc ob).grownBy w' (Value.ownBlock (.slice (some ⟨p, 0, none⟩) ps.length pc))) (hgl : g < w.heap.size) : SealsAt w w' g A n cap s l c sh q o m cap' zs ck ch ct cq cv gg cap2 (ps ++ [(a, b)]) := by
  have hp := (h.own.lt p rfl).1
  have hg : (wr.alloc ob).grownBy w' (some p) := hg
  have h2 := h.later (bel_alloc wr ob)
  have hs := h.grw.size
  refine ⟨h2.cur.kept hg (fun r hr => by injection hr with hr; omega), ⟨hg.os.trans h2.grw.os, hg.tape.trans h2.grw.tape, hg.output.trans h2.grw.output, Nat.le_trans h2.grw.size hg.size, fun k hk hne => (hg.block k (Nat.lt_of_lt_of_le hk h2.grw.size) (by intro e; injection e with e; omega)).trans (h2.grw.block k hk hne)⟩,
    h2.gr.kept hg (by intro e; injection e with e; omega), h2.cl.kept hg (by intro e; injection e with e; omega), ?_, h2.row.keptB h2.grw.size hg (fun k hk => by injection hk with hk; exact .inl (by omega))⟩
  rw [flatP_snoc]
  simpa using hown
end
end Go.Proofs.YtjdepjpjjgkmbaaGreat

/- The model's l7Copy and l7Write once more: the lists that they answer are one's own (written by reg_own.py). -/
namespace Go.Proofs.YtjdepjpjjgkmbaaGreat
open Go.RowKit Go.Deep

/-- A row of one's own, in a block of [lo, hi). -/
def OwnR (t : TypeId) (size : Nat) (w : World) (lo hi : Nat) (u : Value) (n : Nat) (vs : List Value) : Prop :=
  ∃ g cap, lo ≤ g ∧ g < hi ∧ u = .slice (some ⟨g, 0, none⟩) n cap ∧ w.ownsRow lo t size u n vs
section
variable {t : TypeId} {size : Nat} {w w' : World} {lo hi : Nat} {u : Value} {n : Nat} {vs : List Value}
theorem OwnR.keepG (h : OwnR t size w lo hi u n vs) {r : Option Nat} (hg : w.grownBy w' r) (hr : ∀ b, r = some b → b < lo ∨ hi ≤ b) : OwnR t size w' lo hi u n vs := by
  obtain ⟨g, cap, h1, h2, rfl, h4⟩ := h
  exact ⟨g, cap, h1, h2, rfl, h4.kept hg (.inr (fun e => by have := hr g e.symm; omega))⟩
theorem OwnR.later (h : OwnR t size w lo hi u n vs) (hb : Below w.heap.size w w') : OwnR t size w' lo hi u n vs :=
  h.keepG (grown_bel hb none) (fun b e => by cases e)
theorem OwnR.kept {r : Nat} (h : OwnR t size w lo hi u n vs) (hg : w.grownBy w' (some r)) (hr : hi ≤ r) : OwnR t size w' lo hi u n vs :=
  h.keepG hg (fun b e => by injection e with e; omega)
theorem OwnR.far (h : OwnR t size w lo hi u n vs) {b : Nat} (hb : b < lo) (o : Nat) (x : Value) : OwnR t size (w.setCell ⟨b, o, none⟩ x) lo hi u n vs :=
  h.keepG (grown_set (grown_refl w _) o x) (fun k e => by injection e with e; omega)
theorem OwnR.farHi (h : OwnR t size w lo hi u n vs) {b : Nat} (hb : hi ≤ b) (o : Nat) (x : Value) : OwnR t size (w.setCell ⟨b, o, none⟩ x) lo hi u n vs :=
  h.keepG (grown_set (grown_refl w _) o x) (fun k e => by injection e with e; omega)
theorem OwnR.far5 (h : OwnR t size w lo hi u n vs) {b : Nat} (hb : b < lo) (x0 x1 x2 x3 x4 : Value) : OwnR t size (((((w.setCell ⟨b, 0, none⟩ x0).setCell ⟨b, 1, none⟩ x1).setCell ⟨b, 2, none⟩ x2).setCell ⟨b, 3, none⟩ x3).setCell ⟨b, 4, none⟩ x4) lo hi u n vs :=
  ((((h.far hb 0 x0).far hb 1 x1).far hb 2 x2).far hb 3 x3).far hb 4 x4
theorem OwnR.wide {lo' hi' : Nat} (h : OwnR t size w lo hi u n vs) (h1 : lo' ≤ lo) (h2 : hi ≤ hi') : OwnR t size w lo' hi' u n vs := by
  obtain ⟨g, cap, a1, a2, rfl, a4⟩ := h
  exact ⟨g, cap, by omega, by omega, rfl, ownLow a4 h1⟩
theorem OwnR.form (h : OwnR t size w lo hi u n vs) : ∃ g cap, u = .slice (some ⟨g, 0, none⟩) n cap := by
  obtain ⟨g, cap, a1, a2, rfl, a4⟩ := h
  exact ⟨g, cap, rfl⟩
theorem ownR_of {g cap : Nat} (h : w.ownsRow lo t size (.slice (some ⟨g, 0, none⟩) n cap) n vs) : OwnR t size w lo w.heap.size (.slice (some ⟨g, 0, none⟩) n cap) n vs :=
  ⟨g, cap, (h.lt g rfl).1, (h.lt g rfl).2, rfl, h⟩
end
abbrev OP (w : World) (lo hi : Nat) (u : Value) (D : List (Int × Int)) : Prop := OwnR 136 2 w lo hi u D.length (flatP D)
abbrev OO (w : World) (lo hi : Nat) (u : Value) (D : List Opn) : Prop := OwnR 97 4 w lo hi u D.length (flatO D)

/-- A shelf that is answered, with lists of one's own. -/
def RegO (w : World) (rt rq rv : Int) (ps : List (Int × Int)) (os : List Opn) (e : Ending) (w' : World) : Prop :=
  ∃ (B : Nat) (u v : Value), w.heap.size ≤ B ∧ B ≤ w'.heap.size ∧ e = .returned (.agg #[.int .i64 rt, .int .i64 rq, .int .i64 rv, u, v]) ∧ OP w' w.heap.size B u ps ∧ OO w' B w'.heap.size v os ∧ Below w.heap.size w w'

set_option maxRecDepth 100000 in
set_option maxHeartbeats 2000000 in
theorem l7Copy_own (rt rq rv : Int) (P : Option Addr) (p pc : Nat) (Q : Option Addr) (q qc : Nat) (ps : List (Int × Int)) (os : List Opn) (w : World) (hp : ps.length ≤ 4194304) (hq : os.length ≤ 4194304) (h1 : Slc w (.slice P p pc) ps) (h2 : SlcQ w (.slice Q q qc) os) :
    Calls Tryz.prog 98 #[.agg #[.int .i64 rt, .int .i64 rq, .int .i64 rv, .slice P p pc, .slice Q q qc]] w (RegO w rt rq rv ps os) := by
  obtain ⟨i0, hi0, hz0, hz1, hz2⟩ := info_parts Tryz.infoSealI
  obtain ⟨j0, hj0, hy0, hy1, hy2⟩ := info_parts Tryz.infoOpen
  have D := (Box.new w 80 #[.int .i64 rt, .int .i64 rq, .int .i64 rv, .slice P p pc, .slice Q q qc]).alloc (.cells #[.int .i64 0, .int .i64 0, .int .i64 0, .slice none 0 0, .slice none 0 0] 80)
  have X := Box.new (w.alloc (.cells #[.int .i64 rt, .int .i64 rq, .int .i64 rv, .slice P p pc, .slice Q q qc] 80)) 80 #[.int .i64 0, .int .i64 0, .int .i64 0, .slice none 0 0, .slice none 0 0]
  have hb0 := bel_trans (bel_alloc w (.cells #[.int .i64 rt, .int .i64 rq, .int .i64 rv, .slice P p pc, .slice Q q qc] 80)) (bel_alloc _ (.cells #[.int .i64 0, .int .i64 0, .int .i64 0, .slice none 0 0, .slice none 0 0] 80))
  simp only [World.size_alloc] at X
  have hszW : w.heap.size + 1 + 1 = ((w.alloc (.cells #[.int .i64 rt, .int .i64 rq, .int .i64 rv, .slice P p pc, .slice Q q qc] 80)).alloc (.cells #[.int .i64 0, .int .i64 0, .int .i64 0, .slice none 0 0, .slice none 0 0] 80)).heap.size := by simp
  generalize hW : ((w.alloc (.cells #[.int .i64 rt, .int .i64 rq, .int .i64 rv, .slice P p pc, .slice Q q qc] 80)).alloc (.cells #[.int .i64 0, .int .i64 0, .int .i64 0, .slice none 0 0, .slice none 0 0] 80) : World) = w0 at hb0 D X hszW
  have hb1 := bel_alloc w0 (.cells #[] 136)
  have hown := own_new w0 136 2
  have S1 := Lib.hid ((h1.later hb0).later hb1).src
  have H2 := Lib.hid (h2.later hb0)
  have D1 := D.later hb1 D.lt
  have X1 := X.later hb1 X.lt
  have E1 := bel_trans hb0 hb1
  have hbs : w0.heap.size ≤ (w0.alloc (.cells #[] 136)).heap.size := hb1.size
  replace hszW := Lib.hid hszW
  go_enter Tryz.func98, Tryz.ntmps98
  go_upto_region 1 with fail
  clear hW
  obtain ⟨d0, d1, d2, d3, d4⟩ := D.five
  have hD := D.lt
  have hX := X.lt
  go_upto_region 2 with (at_builtin; refine wpList_append_src rfl _ _ _ rfl w0.heap.size 136 i0 _ 2 16 Tryz.underlying40 hi0 hz0 hz1 hz2 rfl (by omega) (.slice (some ⟨w0.heap.size, 0, none⟩) 0 0) 0 [] rfl hown (by simp) (.slice P p pc) ps.length (flatP ps) rfl S1.out (by unfold maxLen; omega) (by omega) hbs ?_; intro g1 cap1 w1 hown1 hgrow1 hbg1 hlg1; have hR1 := hown1; rw [Nat.zero_add, List.nil_append] at hR1; have R1 := ownR_of hR1; have hgr : (w0.alloc (.cells #[] 136)).grownBy w1 (some w0.heap.size) := hgrow1; have D2 := D1.kept hgr (by intro e; injection e with e; omega); have X2 := X1.kept hgr (by intro e; injection e with e; omega); have E2 := bel_grown E1 hgr (by have := hb0.size; omega); obtain ⟨e0, e1, e2, e3, e4⟩ := D2.five; have fd := D2.frozen; clear hown1 hgrow1 hR1)
  have hlo : w.heap.size < w0.heap.size := hD
  have R3 := R1.far (b := w.heap.size) hlo 3 (.slice (some ⟨g1, 0, none⟩) ps.length cap1)
  have D3 : Box (w1.setCell ⟨w.heap.size, 3, none⟩ (.slice (some ⟨g1, 0, none⟩) ps.length cap1)) w.heap.size 80 #[.int .i64 rt, .int .i64 rq, .int .i64 rv, .slice (some ⟨g1, 0, none⟩) ps.length cap1, .slice Q q qc] := D2.set 3 _
  have X3 := X2.far (p := ⟨w.heap.size, 3, none⟩) (by show w.heap.size ≠ _; omega) (.slice (some ⟨g1, 0, none⟩) ps.length cap1)
  have E3 := E2.setCell (p := ⟨w.heap.size, 3, none⟩) (Nat.le_refl _) (.slice (some ⟨g1, 0, none⟩) ps.length cap1)
  have hs3 : (w1.setCell ⟨w.heap.size, 3, none⟩ (.slice (some ⟨g1, 0, none⟩) ps.length cap1)).heap.size = w1.heap.size := size_set _ _ _
  rw [← hs3] at R3
  clear R1 D2 X2 E2 hgr e0 e1 e2 e3 e4 fd d0 d1 d2 d3 d4 D X D1 X1 E1 S1 hown hb1 hbs hs3 hlg1
  try simp only [Nat.zero_add]
  generalize (w1.setCell _ _ : World) = w2 at R3 D3 X3 E3 ⊢
  have hb4 := bel_alloc w2 (.cells #[] 97)
  have hown := own_new w2 97 4
  have S2 := Lib.hid ((h2.later E3).later hb4).src
  have D4 := D3.later hb4 D3.lt
  have X4 := X3.later hb4 X3.lt
  have E4 := bel_trans E3 hb4
  have R4 := R3.later hb4
  have hbs : w2.heap.size ≤ (w2.alloc (.cells #[] 97)).heap.size := hb4.size
  obtain ⟨d0, d1, d2, d3, d4⟩ := D3.five
  have hD3 := D3.lt
  have hX3 := X3.lt
  go_upto_region 3 with (at_builtin; refine wpList_append_src rfl _ _ _ rfl w2.heap.size 97 j0 _ 4 32 Tryz.underlying78 hj0 hy0 hy1 hy2 rfl (by omega) (.slice (some ⟨w2.heap.size, 0, none⟩) 0 0) 0 [] rfl hown (by simp) (.slice Q q qc) os.length (flatO os) rfl S2.out (by unfold maxLen; omega) (by omega) hbs ?_; intro g2 cap2 w5 hown5 hgrow5 hbg5 hlg5; have hR5 := hown5; rw [Nat.zero_add, List.nil_append] at hR5; have O5 := ownR_of hR5; have hgr : (w2.alloc (.cells #[] 97)).grownBy w5 (some w2.heap.size) := hgrow5; have D5 := D4.kept hgr (by intro e; injection e with e; omega); have X5 := X4.kept hgr (by intro e; injection e with e; omega); have E5 := bel_grown E4 hgr (by have := E3.size; omega); have R5 := R4.kept hgr (Nat.le_refl _); obtain ⟨e0, e1, e2, e3, e4⟩ := D5.five; have fd := D5.frozen; clear hown5 hgrow5 hR5)
  have R6 := R5.far (b := w.heap.size) hlo 4 (.slice (some ⟨g2, 0, none⟩) os.length cap2)
  have O6 := O5.far (b := w.heap.size) hD3 4 (.slice (some ⟨g2, 0, none⟩) os.length cap2)
  have D6 : Box (w5.setCell ⟨w.heap.size, 4, none⟩ (.slice (some ⟨g2, 0, none⟩) os.length cap2)) w.heap.size 80 #[.int .i64 rt, .int .i64 rq, .int .i64 rv, .slice (some ⟨g1, 0, none⟩) ps.length cap1, .slice (some ⟨g2, 0, none⟩) os.length cap2] := D5.set 4 _
  have X6 := X5.far (p := ⟨w.heap.size, 4, none⟩) (by show w.heap.size ≠ _; omega) (.slice (some ⟨g2, 0, none⟩) os.length cap2)
  have E6 := E5.setCell (p := ⟨w.heap.size, 4, none⟩) (Nat.le_refl _) (.slice (some ⟨g2, 0, none⟩) os.length cap2)
  have hsz6 : w5.heap.size = (w5.setCell ⟨w.heap.size, 4, none⟩ (.slice (some ⟨g2, 0, none⟩) os.length cap2)).heap.size := (size_set _ _ _).symm
  rw [hsz6] at O6
  have hs6 : w2.heap.size ≤ (w5.setCell ⟨w.heap.size, 4, none⟩ (.slice (some ⟨g2, 0, none⟩) os.length cap2)).heap.size := by rw [size_set]; exact Nat.le_trans hb4.size hgr.size
  clear hsz6 R5 O5 D5 X5 E5 hgr e0 e1 e2 e3 e4 fd d0 d1 d2 d3 d4 D3 X3 E4 R4 D4 X4 S2 hown hb4 hbs hlg5 R3
  try simp only [Nat.zero_add]
  generalize (w5.setCell _ _ : World) = w6 at R6 O6 D6 X6 E6 hs6 ⊢
  have hw2 : w0.heap.size ≤ w2.heap.size := Nat.le_trans (Nat.le_of_eq hszW.out.symm) (by omega)
  have hwB : w.heap.size ≤ w2.heap.size := E3.size
  have HP : Hid (∀ x0 x1 x2 x3 x4 : Value, RegO w rt rq rv ps os (.returned (.agg #[.int .i64 rt, .int .i64 rq, .int .i64 rv, .slice (some ⟨g1, 0, none⟩) ps.length cap1, .slice (some ⟨g2, 0, none⟩) os.length cap2])) (((((w6.setCell ⟨w.heap.size + 1, 0, none⟩ x0).setCell ⟨w.heap.size + 1, 1, none⟩ x1).setCell ⟨w.heap.size + 1, 2, none⟩ x2).setCell ⟨w.heap.size + 1, 3, none⟩ x3).setCell ⟨w.heap.size + 1, 4, none⟩ x4)) := Lib.hid fun x0 x1 x2 x3 x4 =>
    ⟨w2.heap.size, _, _, hwB, by simp only [size_set]; exact hs6, rfl, (R6.far5 hX x0 x1 x2 x3 x4).wide hb0.size (Nat.le_refl _), (O6.far5 (by omega) x0 x1 x2 x3 x4).wide (Nat.le_refl _) (by simp only [size_set]; exact Nat.le_refl _), bel_five E6 (by omega) x0 x1 x2 x3 x4⟩
  obtain ⟨d0, d1, d2, d3, d4⟩ := D6.five
  obtain ⟨x0, x1, x2, x3, x4⟩ := X6.five
  have fx := X6.frozen
  clear R6 O6 E6 D6 X6
  go_wp2
  exact bodyPost_ret (v := .agg #[.int .i64 rt, .int .i64 rq, .int .i64 rv, .slice (some ⟨g1, 0, none⟩) ps.length cap1, .slice (some ⟨g2, 0, none⟩) os.length cap2]) (by simp [results, Tryz.results98, go_sem, x0, x1, x2, x3, x4]) rfl (HP.out _ _ _ _ _)


end Go.Proofs.YtjdepjpjjgkmbaaGreat

/- The model's l7Write once more: the lists of its answer are one's own (written by reg_own2.py). -/
namespace Go.Proofs.YtjdepjpjjgkmbaaGreat
open Go.RowKit Go.Deep

/-- What the model's writing keeps. -/
structure LWO (w wr : World) (S B : Nat) (s l c sh : Int) (A : Option Addr) (n cap : Nat) (rt rq rv : Int) (P : Option Addr) (p pc : Nat) (Q : Option Addr) (q qc : Nat) (ct cq : Int) (u v : Value) (ps : List (Int × Int)) (os : List Opn) : Prop where
  bel : Below w.heap.size w wr
  G : Box wr w.heap.size 26 #[.int .i64 s, .int .i64 l, .int .i64 c, .int .i64 sh, .slice A n cap]
  D : Box wr (w.heap.size + 1) 80 #[.int .i64 rt, .int .i64 rq, .int .i64 rv, .slice P p pc, .slice Q q qc]
  T : Box wr (w.heap.size + 1 + 1) 39 #[.int .i64 ct, .int .i64 cq]
  X : Box wr (w.heap.size + 1 + 1 + 1) 80 #[.int .i64 0, .int .i64 0, .int .i64 0, .slice none 0 0, .slice none 0 0]
  Y : Box wr S 80 #[.int .i64 rt, .int .i64 rq, .int .i64 rv, u, v]
  hlo : w.heap.size + 1 + 1 + 1 < B
  hBS : B ≤ S
  R : OP wr (w.heap.size + 1 + 1 + 1 + 1) B u ps
  V : OO wr B S v os
theorem LWO.later {w wr w' : World} {S B : Nat} {s l c sh : Int} {A : Option Addr} {n cap : Nat} {rt rq rv : Int} {P : Option Addr} {p pc : Nat} {Q : Option Addr} {q qc : Nat} {ct cq : Int} {u v : Value} {ps : List (Int × Int)} {os : List Opn} (h : LWO w wr S B s l c sh A n cap rt rq rv P p pc Q q qc ct cq u v ps os) (hb : Below wr.heap.size wr w') : LWO w w' S B s l c sh A n cap rt rq rv P p pc Q q qc ct cq u v ps os :=
  ⟨bel_trans h.bel hb, h.G.later hb h.G.lt, h.D.later hb h.D.lt, h.T.later hb h.T.lt, h.X.later hb h.X.lt, h.Y.later hb h.Y.lt, h.hlo, h.hBS, h.R.later hb, h.V.later hb⟩
/-- What the model's writing keeps, once stamp and value are written. -/
structure LVO (w wr : World) (S B : Nat) (s l c sh : Int) (A : Option Addr) (n cap : Nat) (ct cq v : Int) (z u : Value) (os : List Opn) : Prop where
  bel : Below w.heap.size w wr
  G : Box wr w.heap.size 26 #[.int .i64 s, .int .i64 l, .int .i64 c, .int .i64 sh, .slice A n cap]
  T : Box wr (w.heap.size + 1 + 1) 39 #[.int .i64 ct, .int .i64 cq]
  X : Box wr (w.heap.size + 1 + 1 + 1) 80 #[.int .i64 0, .int .i64 0, .int .i64 0, .slice none 0 0, .slice none 0 0]
  Y : Box wr S 80 #[.int .i64 ct, .int .i64 cq, .int .i64 v, z, u]
  hlo : w.heap.size + 1 + 1 + 1 < B
  hBS : B ≤ S
  V : OO wr B S u os
theorem LVO.later {w wr w' : World} {S B : Nat} {s l c sh : Int} {A : Option Addr} {n cap : Nat} {ct cq v : Int} {z u : Value} {os : List Opn} (h : LVO w wr S B s l c sh A n cap ct cq v z u os) (hb : Below wr.heap.size wr w') : LVO w w' S B s l c sh A n cap ct cq v z u os :=
  ⟨bel_trans h.bel hb, h.G.later hb h.G.lt, h.T.later hb h.T.lt, h.X.later hb h.X.lt, h.Y.later hb h.Y.lt, h.hlo, h.hBS, h.V.later hb⟩
theorem LVO.drew {w wr : World} {S B : Nat} {s l c sh : Int} {A : Option Addr} {n cap : Nat} {ct cq v : Int} {z u : Value} {os : List Opn} (h : LVO w wr S B s l c sh A n cap ct cq v z u os) : LVO w wr.drew S B s l c sh A n cap ct cq v z u os := h.later ((Below.refl _ _).drew)
theorem LWO.put {w wr : World} {S B : Nat} {s l c sh : Int} {A : Option Addr} {n cap : Nat} {rt rq rv : Int} {P : Option Addr} {p pc : Nat} {Q : Option Addr} {q qc : Nat} {ct cq : Int} {u u' : Value} {ps : List (Int × Int)} {os : List Opn} (h : LWO w wr S B s l c sh A n cap rt rq rv P p pc Q q qc ct cq u u' ps os) (v : Int) :
    LVO w (((wr.setCell ⟨S, 0, none⟩ (.int .i64 ct)).setCell ⟨S, 1, none⟩ (.int .i64 cq)).setCell ⟨S, 2, none⟩ (.int .i64 v)) S B s l c sh A n cap ct cq v u u' os := by
  have hlo := h.hlo
  have hBS := h.hBS
  have hw : w.heap.size ≤ S := by omega
  refine ⟨((h.bel.setCell (p := ⟨S, 0, none⟩) hw _).setCell (p := ⟨S, 1, none⟩) hw _).setCell (p := ⟨S, 2, none⟩) hw _, ?_, ?_, ?_, ((h.Y.set 0 _).set 1 _).set 2 _, hlo, hBS, ((h.V.farHi (Nat.le_refl _) 0 _).farHi (Nat.le_refl _) 1 _).farHi (Nat.le_refl _) 2 _⟩
  · exact ((h.G.far (p := ⟨S, 0, none⟩) (by show S ≠ _; omega) _).far (p := ⟨S, 1, none⟩) (by show S ≠ _; omega) _).far (p := ⟨S, 2, none⟩) (by show S ≠ _; omega) _
  · exact ((h.T.far (p := ⟨S, 0, none⟩) (by show S ≠ _; omega) _).far (p := ⟨S, 1, none⟩) (by show S ≠ _; omega) _).far (p := ⟨S, 2, none⟩) (by show S ≠ _; omega) _
  · exact ((h.X.far (p := ⟨S, 0, none⟩) (by show S ≠ _; omega) _).far (p := ⟨S, 1, none⟩) (by show S ≠ _; omega) _).far (p := ⟨S, 2, none⟩) (by show S ≠ _; omega) _
end Go.Proofs.YtjdepjpjjgkmbaaGreat

/- The model's l4Cert: a list of right seals, one's own. -/
namespace Go.Proofs.YtjdepjpjjgkmbaaGreat
open Go.RowKit

/-- What l4Cert keeps. -/
structure LC (w wr : World) (s l c sh : Int) (A : Option Addr) (m cap' : Nat) (zs : List Int) (ck ch ct cq cv : Int) (p pc : Nat) (ps : List (Int × Int)) : Prop where
  bel : Below w.heap.size w wr
  gr : Box wr w.heap.size 26 #[.int .i64 s, .int .i64 l, .int .i64 c, .int .i64 sh, .slice A m cap']
  cl : Box wr (w.heap.size + 1) 180 #[.int .i64 ck, .int .i64 ch, .int .i64 ct, .int .i64 cq, .int .i64 cv]
  own : wr.ownsRow (w.heap.size + 2) 136 2 (.slice (some ⟨p, 0, none⟩) ps.length pc) ps.length (flatP ps)
  row : Row wr w.heap.size A m zs
section
variable {w wr w' : World} {s l c sh : Int} {A : Option Addr} {m cap' : Nat} {zs : List Int} {ck ch ct cq cv : Int} {p pc : Nat} {ps : List (Int × Int)}
theorem LC.later (h : LC w wr s l c sh A m cap' zs ck ch ct cq cv p pc ps) (hb : Below wr.heap.size wr w') : LC w w' s l c sh A m cap' zs ck ch ct cq cv p pc ps :=
  ⟨bel_trans h.bel hb, h.gr.later hb h.gr.lt, h.cl.later hb h.cl.lt, h.own.kept (grown_bel hb none) (by simp [Value.ownBlock]), h.row.below hb h.bel.size⟩
theorem LC.push {a b : Int} {ob : Obj} {gg cap2 : Nat} (h : LC w wr s l c sh A m cap' zs ck ch ct cq cv p pc ps)
    (hown : w'.ownsRow (w.heap.size + 2) 136 2 (.slice (some ⟨gg, 0, none⟩) (ps.length + 1) cap2) (ps.length + 1) (flatP ps ++ [.int .i64 a, .int .i64 b])) (hg : (wr.alloc ob).grownBy w' (Value.ownBlock (.slice (some ⟨p, 0, none⟩) ps.length pc))) : LC w w' s l c sh A m cap' zs ck ch ct cq cv gg cap2 (ps ++ [(a, b)]) := by
  have hp := (h.own.lt p rfl).1
  have hg : (wr.alloc ob).grownBy w' (some p) := hg
  have h2 := h.later (bel_alloc wr ob)
  have hB : Below w.heap.size w w' := bel_grown h2.bel hg (by omega)
  refine ⟨hB, h2.gr.kept hg (by intro e; injection e with e; omega), h2.cl.kept hg (by intro e; injection e with e; omega), ?_, h.row.keep fun q hq => ?_⟩
  · rw [flatP_snoc]
    simpa using hown
  · exact (hB.cell hq).trans (h.bel.cell hq).symm
end

end Go.Proofs.YtjdepjpjjgkmbaaGreat

/- The model's l7Draw: a shelf of a group, its lists one's own. -/
namespace Go.Proofs.YtjdepjpjjgkmbaaGreat
open Go.RowKit Go.Deep

/-- What l7Draw keeps while it draws the opens. -/
structure RSt (w wr : World) (g : Nat) (A : Option Addr) (n cap : Nat) (s l c sh : Int) (q o m cap' : Nat) (zs : List Int) (v : Value) (os : List Opn) : Prop where
  cur : Cur wr 169 .i64 g A n cap
  grw : w.grownBy wr (some g)
  G : Box wr w.heap.size 26 #[.int .i64 s, .int .i64 l, .int .i64 c, .int .i64 sh, .slice (some ⟨q, o, none⟩) m cap']
  X : Box wr (w.heap.size + 1) 80 #[.int .i64 0, .int .i64 0, .int .i64 0, .slice none 0 0, .slice none 0 0]
  Y : Box wr (w.heap.size + 1 + 1) 80 #[.int .i64 0, .int .i64 0, .int .i64 0, .slice none 0 0, v]
  own : wr.ownsRow (w.heap.size + 3) 97 4 v os.length (flatO os)
  row : Row wr w.heap.size (some ⟨q, o, none⟩) m zs
section
variable {w wr w' : World} {g : Nat} {A : Option Addr} {n cap : Nat} {s l c sh : Int} {q o m cap' : Nat} {zs : List Int} {v v' : Value} {os os' : List Opn}
theorem RSt.low (h : RSt w wr g A n cap s l c sh q o m cap' zs v os) (b : Nat) (e : v.ownBlock = some b) : w.heap.size + 3 ≤ b := (h.own.lt b e).1
theorem RSt.later (h : RSt w wr g A n cap s l c sh q o m cap' zs v os) (hb : Below wr.heap.size wr w') : RSt w w' g A n cap s l c sh q o m cap' zs v os :=
  ⟨h.cur.kept (grown_bel hb none) (fun q hq => by cases hq), grown_trans h.grw (grown_bel hb _), h.G.later hb h.G.lt, h.X.later hb h.X.lt, h.Y.later hb h.Y.lt, h.own.kept (grown_bel hb none) (by cases v.ownBlock <;> simp), h.row.below hb h.grw.size⟩
/-- An open more, and the list is laid back. -/
theorem RSt.push {wd : World} (h : RSt w wr g A n cap s l c sh q o m cap' zs v os) (hgl : g < w.heap.size) (gd : wr.grownBy wd v.ownBlock) (ho : wd.ownsRow (w.heap.size + 3) 97 4 v' os'.length (flatO os')) : RSt w (wd.setCell ⟨w.heap.size + 1 + 1, 4, none⟩ v') g A n cap s l c sh q o m cap' zs v' os' := by
  have hl := h.low
  have gs : wd.grownBy (wd.setCell ⟨w.heap.size + 1 + 1, 4, none⟩ v') (some (w.heap.size + 1 + 1)) := grown_set (grown_refl wd _) 4 v'
  have hne : ∀ b : Nat, b < w.heap.size + 3 → v.ownBlock ≠ some b := fun b hb e => by have := hl b e; omega
  have hrow := h.row.keptB h.grw.size gd (fun k hk => by have := hl k hk; exact .inl (by omega))
  refine ⟨(h.cur.kept gd (fun k hk => by have := hl k hk; omega)).kept gs (fun k hk => by injection hk with hk; omega), grown_far (grown_far h.grw gd (fun k hk => by have := hl k hk; omega)) gs (fun k hk => by injection hk with hk; omega), (h.G.kept gd (hne _ (by omega))).kept gs (by intro e; injection e with e; omega), (h.X.kept gd (hne _ (by omega))).kept gs (by intro e; injection e with e; omega), (h.Y.kept gd (hne _ (by omega))).set 4 v', ho.kept gs (.inr (fun e => by have := (ho.lt _ e).1; omega)), hrow.keptB (Nat.le_trans h.grw.size gd.size) gs (fun k hk => by injection hk with hk; exact .inl (by omega))⟩
/-- A cell of a block behind the shelf's is written. -/
theorem RSt.far (h : RSt w wr g A n cap s l c sh q o m cap' zs v os) (hgl : g < w.heap.size) {S : Nat} (hS : w.heap.size + 1 + 1 < S) (hv : ∀ b, v.ownBlock = some b → b ≠ S) (k : Nat) (u : Value) : RSt w (wr.setCell ⟨S, k, none⟩ u) g A n cap s l c sh q o m cap' zs v os := by
  have hg : wr.grownBy (wr.setCell ⟨S, k, none⟩ u) (some S) := grown_set (grown_refl wr _) k u
  exact ⟨h.cur.kept hg (fun r hr => by injection hr with hr; omega), grown_new h.grw (p := ⟨S, k, none⟩) (show w.heap.size ≤ S by omega) u, h.G.kept hg (by intro e; injection e with e; omega), h.X.kept hg (by intro e; injection e with e; omega), h.Y.kept hg (by intro e; injection e with e; omega), h.own.kept hg (.inr (fun e => hv S e rfl)), h.row.keptB h.grw.size hg (fun k hk => by injection hk with hk; exact .inl (by omega))⟩
end

end Go.Proofs.YtjdepjpjjgkmbaaGreat

/- The model's writing on a shelf, its values and its lists told together (written by spec_write_v.py); conditions: the sizes. -/
namespace Go.Proofs.YtjdepjpjjgkmbaaGreat
open Go.RowKit Go.Deep

/-- A shelf and a flag, the lists in blocks of their own that are known whole. -/
def SpV (w : World) (t q v : Int) (cs : List (Int × Int)) (os : List Opn) (f : Bool) (e : Ending) (w' : World) : Prop :=
  ∃ (g1 c1 g2 c2 : Nat), e = .returned (.tuple #[.agg #[.int .i64 t, .int .i64 q, .int .i64 v, .slice (some ⟨g1, 0, none⟩) cs.length c1, .slice (some ⟨g2, 0, none⟩) os.length c2], .bool f]) ∧ g1 ≠ g2 ∧ w'.ownsRow w.heap.size 136 2 (.slice (some ⟨g1, 0, none⟩) cs.length c1) cs.length (flatP cs) ∧ w'.ownsRow w.heap.size 97 4 (.slice (some ⟨g2, 0, none⟩) os.length c2) os.length (flatO os) ∧ Below w.heap.size w w'
def WroteV (w : World) (s l c sh : Int) (zs : List Int) (x rt rq rv : Int) (ps : List (Int × Int)) (os : List Opn) (ct cq v : Int) (cs : List (Int × Int)) (e : Ending) (w' : World) : Prop :=
  (¬ 0 < cmpN ct cq rt rq ∧ SpV w rt rq rv ps os true e w') ∨ (0 < cmpN ct cq rt rq ∧ SpV w ct cq v (goodP (rB s l c sh zs 1 x ct cq v) cs) os true e w')
theorem lw_oldV {w wr : World} {S B : Nat} {s l c sh : Int} {A : Option Addr} {n cap : Nat} {rt rq rv : Int} {P : Option Addr} {p pc : Nat} {Q : Option Addr} {q qc : Nat} {ct cq : Int} {a5 c5 a6 c6 : Nat} {ps : List (Int × Int)} {os : List Opn} {f : Bool} (h : LWO w wr S B s l c sh A n cap rt rq rv P p pc Q q qc ct cq (.slice (some ⟨a5, 0, none⟩) ps.length c5) (.slice (some ⟨a6, 0, none⟩) os.length c6) ps os) (x0 x1 x2 x3 x4 : Value) :
    SpV w rt rq rv ps os f (.returned (.tuple #[.agg #[.int .i64 rt, .int .i64 rq, .int .i64 rv, .slice (some ⟨a5, 0, none⟩) ps.length c5, .slice (some ⟨a6, 0, none⟩) os.length c6], .bool f])) (((((wr.setCell ⟨w.heap.size + 1 + 1 + 1, 0, none⟩ x0).setCell ⟨w.heap.size + 1 + 1 + 1, 1, none⟩ x1).setCell ⟨w.heap.size + 1 + 1 + 1, 2, none⟩ x2).setCell ⟨w.heap.size + 1 + 1 + 1, 3, none⟩ x3).setCell ⟨w.heap.size + 1 + 1 + 1, 4, none⟩ x4) := by
  have hlo := h.hlo
  obtain ⟨g, k, h1, h2, e, h3⟩ := h.R.far5 (b := w.heap.size + 1 + 1 + 1) (by omega) x0 x1 x2 x3 x4
  obtain ⟨g', k', h1', h2', e', h3'⟩ := h.V.far5 (b := w.heap.size + 1 + 1 + 1) (by omega) x0 x1 x2 x3 x4
  cases e
  cases e'
  exact ⟨_, _, _, _, rfl, by omega, ownLow h3 (by omega), ownLow h3' (by omega), bel_five h.bel (by omega) x0 x1 x2 x3 x4⟩

theorem lv_newV {w w1 wr : World} {S B : Nat} {s l c sh : Int} {A : Option Addr} {n cap : Nat} {ct cq v : Int} {z : Value} {a6 c6 : Nat} {os : List Opn} (h : LVO w wr S B s l c sh A n cap ct cq v z (.slice (some ⟨a6, 0, none⟩) os.length c6) os) {g c5 : Nat} {J : List (Int × Int)} (hS1 : S < w1.heap.size) (hJ : wr.ownsRow w1.heap.size 136 2 (.slice (some ⟨g, 0, none⟩) J.length c5) J.length (flatP J)) (x0 x1 x2 x3 x4 : Value) :
    SpV w ct cq v J os true (.returned (.tuple #[.agg #[.int .i64 ct, .int .i64 cq, .int .i64 v, .slice (some ⟨g, 0, none⟩) J.length c5, .slice (some ⟨a6, 0, none⟩) os.length c6], .bool true])) ((((((wr.setCell ⟨S, 3, none⟩ (.slice (some ⟨g, 0, none⟩) J.length c5)).setCell ⟨w.heap.size + 1 + 1 + 1, 0, none⟩ x0).setCell ⟨w.heap.size + 1 + 1 + 1, 1, none⟩ x1).setCell ⟨w.heap.size + 1 + 1 + 1, 2, none⟩ x2).setCell ⟨w.heap.size + 1 + 1 + 1, 3, none⟩ x3).setCell ⟨w.heap.size + 1 + 1 + 1, 4, none⟩ x4) := by
  have hlo := h.hlo
  have hBS := h.hBS
  have hb : Below w.heap.size w (wr.setCell ⟨S, 3, none⟩ (.slice (some ⟨g, 0, none⟩) J.length c5)) := h.bel.setCell (p := ⟨S, 3, none⟩) (by show _ ≤ S; omega) _
  have hV := h.V.farHi (Nat.le_refl _) 3 (.slice (some ⟨g, 0, none⟩) J.length c5)
  obtain ⟨g', k', h1', h2', e', h3'⟩ := hV.far5 (b := w.heap.size + 1 + 1 + 1) (by omega) x0 x1 x2 x3 x4
  cases e'
  obtain ⟨k1, k2, h1, h2, e, h3⟩ := ((ownR_of hJ).far (b := S) hS1 3 (.slice (some ⟨g, 0, none⟩) J.length c5)).far5 (b := w.heap.size + 1 + 1 + 1) (by omega) x0 x1 x2 x3 x4
  cases e
  exact ⟨_, _, _, _, rfl, by omega, ownLow h3 (by omega), ownLow h3' (by omega), bel_five hb (by omega) x0 x1 x2 x3 x4⟩

theorem l7WriteV_yes (s l c sh : Int) (A : Option Addr) (n cap : Nat) (zs : List Int) (x rt rq rv : Int) (P : Option Addr) (p pc : Nat) (Q : Option Addr) (q qc : Nat) (ct cq v : Int) (L : Option Addr) (m mc : Nat) (ps : List (Int × Int)) (os : List Opn) (cs : List (Int × Int)) (w : World) (hm : n ≤ maxLen) (hr : Row w w.heap.size A n zs) (hp : ps.length ≤ 2000000) (hq : os.length ≤ 2000000) (h1 : Slc w (.slice P p pc) ps) (h2 : SlcQ w (.slice Q q qc) os) (hn : m ≤ 4194304) (h3 : Pairs w w.heap.size L m cs) (hW : wrtB s l c sh zs x ct cq v cs = true) :
    Calls Tryz.prog 182 #[.agg #[.int .i64 s, .int .i64 l, .int .i64 c, .int .i64 sh, .slice A n cap], .int .i64 x, .agg #[.int .i64 rt, .int .i64 rq, .int .i64 rv, .slice P p pc, .slice Q q qc], .agg #[.int .i64 ct, .int .i64 cq], .int .i64 v, .slice L m mc] w (WroteV w s l c sh zs x rt rq rv ps os ct cq v cs) := by
  have G := (((Box.new w 26 #[.int .i64 s, .int .i64 l, .int .i64 c, .int .i64 sh, .slice A n cap]).alloc (.cells #[.int .i64 rt, .int .i64 rq, .int .i64 rv, .slice P p pc, .slice Q q qc] 80)).alloc (.cells #[.int .i64 ct, .int .i64 cq] 39)).alloc (.cells #[.int .i64 0, .int .i64 0, .int .i64 0, .slice none 0 0, .slice none 0 0] 80)
  have D := ((Box.new (w.alloc (.cells #[.int .i64 s, .int .i64 l, .int .i64 c, .int .i64 sh, .slice A n cap] 26)) 80 #[.int .i64 rt, .int .i64 rq, .int .i64 rv, .slice P p pc, .slice Q q qc]).alloc (.cells #[.int .i64 ct, .int .i64 cq] 39)).alloc (.cells #[.int .i64 0, .int .i64 0, .int .i64 0, .slice none 0 0, .slice none 0 0] 80)
  have T := (Box.new ((w.alloc (.cells #[.int .i64 s, .int .i64 l, .int .i64 c, .int .i64 sh, .slice A n cap] 26)).alloc (.cells #[.int .i64 rt, .int .i64 rq, .int .i64 rv, .slice P p pc, .slice Q q qc] 80)) 39 #[.int .i64 ct, .int .i64 cq]).alloc (.cells #[.int .i64 0, .int .i64 0, .int .i64 0, .slice none 0 0, .slice none 0 0] 80)
  have X := Box.new (((w.alloc (.cells #[.int .i64 s, .int .i64 l, .int .i64 c, .int .i64 sh, .slice A n cap] 26)).alloc (.cells #[.int .i64 rt, .int .i64 rq, .int .i64 rv, .slice P p pc, .slice Q q qc] 80)).alloc (.cells #[.int .i64 ct, .int .i64 cq] 39)) 80 #[.int .i64 0, .int .i64 0, .int .i64 0, .slice none 0 0, .slice none 0 0]
  have E := bel_trans (bel_trans (bel_trans (bel_alloc w (.cells #[.int .i64 s, .int .i64 l, .int .i64 c, .int .i64 sh, .slice A n cap] 26)) (bel_alloc _ (.cells #[.int .i64 rt, .int .i64 rq, .int .i64 rv, .slice P p pc, .slice Q q qc] 80))) (bel_alloc _ (.cells #[.int .i64 ct, .int .i64 cq] 39))) (bel_alloc _ (.cells #[.int .i64 0, .int .i64 0, .int .i64 0, .slice none 0 0, .slice none 0 0] 80))
  simp only [World.size_alloc] at D T X
  have HR := Lib.hid hr
  have HM := Lib.hid hm
  have H1 := Lib.hid h1
  have H2 := Lib.hid h2
  have H3 := Lib.hid h3
  have HW := Lib.hid (wrt_parts hW)
  clear hr hm h1 h2 h3 hW
  go_enter Tryz.func182, Tryz.ntmps182
  go_wp2_with fail
  generalize ((((w.alloc _).alloc _).alloc _).alloc _ : World) = w0 at G D T X E ⊢
  refine (l7Copy_own rt rq rv P p pc Q q qc ps os w0 (by omega) (by omega) (H1.out.later E) (H2.out.later E)).mono ?_
  rintro e w1 ⟨B, u, v', hB, hB', rfl, hR, hV, hb1⟩
  obtain ⟨a5, c5, rfl⟩ := hR.form
  obtain ⟨a6, c6, rfl⟩ := hV.form
  have hb2 := bel_alloc w1 (.cells #[.int .i64 rt, .int .i64 rq, .int .i64 rv, .slice (some ⟨a5, 0, none⟩) ps.length c5, .slice (some ⟨a6, 0, none⟩) os.length c6] 80)
  have hXl := X.lt
  have K : LWO w (w1.alloc (.cells #[.int .i64 rt, .int .i64 rq, .int .i64 rv, .slice (some ⟨a5, 0, none⟩) ps.length c5, .slice (some ⟨a6, 0, none⟩) os.length c6] 80)) w1.heap.size B s l c sh A n cap rt rq rv P p pc Q q qc ct cq (.slice (some ⟨a5, 0, none⟩) ps.length c5) (.slice (some ⟨a6, 0, none⟩) os.length c6) ps os := by
    have hb12 := bel_trans hb1 hb2
    exact ⟨bel_trans E hb12, G.later hb12 G.lt, D.later hb12 D.lt, T.later hb12 T.lt, X.later hb12 X.lt, Box.new w1 _ _, by omega, hB', (hR.later hb2).wide (by omega) (Nat.le_refl _), hV.later hb2⟩
  have T1 := T.later hb1 T.lt
  have hT1 := T1.lt
  obtain ⟨t0, t1⟩ := T1.two
  clear hR hV G D T X E hb1 hb2 hB T1
  go_wp2_with fail
  generalize (w1.alloc _ : World) = w2 at K ⊢
  generalize w1.heap.size = S at K hB' hT1 ⊢
  clear t0 t1 hT1
  have hz := Lib.hid (show (ct == 0) = false ∨ ((ct == 0) = true ∧ (cq == 0) = false) from by
    rcases zero_cases ct cq with h | ⟨h, _⟩
    · exact absurd h HW.out.2.2.1
    · exact h)
  have HS := Lib.hid HW.out.1
  have HPF := Lib.hid HW.out.2.2.2
  have hm20 : m ≤ 20 := by have := HW.out.2.1; rw [H3.out.1] at this; exact this
  refine (l4Zero_no ct cq hz.out w2).mono ?_
  rintro e w3 ⟨rfl, hb3⟩
  have K3 := K.later hb3
  clear K hb3
  obtain ⟨t0, t1⟩ := K3.T.two
  go_wp2_with fail
  refine (specStampR_is HS.out w3).mono ?_
  rintro e w4 ⟨rfl, hb4⟩
  have K4 := K3.later hb4
  clear K3 hb4 t0 t1
  obtain ⟨t0, t1⟩ := K4.T.two
  obtain ⟨g0, g1, g2, g3, g4⟩ := K4.G.five
  go_wp2_with fail
  refine (specProvenR_is HPF.out A n cap L m mc w4 HM.out ((HR.out.below K4.bel (Nat.le_refl _)).more K4.bel.size) hn (H3.out.later K4.bel)).mono ?_
  rintro e w5 ⟨rfl, hb5⟩
  have K5 := K4.later hb5
  clear K4 hb5 t0 t1 g0 g1 g2 g3 g4
  obtain ⟨t0, t1⟩ := K5.T.two
  obtain ⟨d0, d1, d2, d3, d4⟩ := K5.D.five
  go_wp2_with fail
  refine (specCmp_any ct cq rt rq w5).mono ?_
  rintro e w6 ⟨rfl, hb6⟩
  have K6 := K5.later hb6
  clear K5 hb6 t0 t1 d0 d1 d2 d3 d4
  by_cases hc : 0 < cmpN ct cq rt rq
  · have HC := Lib.hid hc
    obtain ⟨y0, y1, y2, y3, y4⟩ := K6.Y.five
    obtain ⟨t0, t1⟩ := K6.T.two
    have fy := K6.Y.frozen
    have hlo := K6.hlo
    have hBS := K6.hBS
    have HV := Lib.hid (K6.put v)
    clear K6
    go_upto_region 7 with fail
    generalize (((w6.setCell _ _).setCell _ _).setCell _ _ : World) = w7 at HV ⊢
    have K7 := HV.out
    have HC := Lib.hid hc
    clear y0 y1 y2 y3 y4 t0 t1 fy HV hc
    obtain ⟨J, hJ⟩ : ∃ J, goodP (rB s l c sh zs 1 x ct cq v) cs = J := ⟨_, rfl⟩
    have HJL : Hid (J.length ≤ 20) := Lib.hid (by rw [← hJ]; exact Nat.le_trans (goodP_le _ _) (by rw [H3.out.1]; exact hm20))
    replace hJ := Lib.hid hJ
    obtain ⟨g0, g1, g2, g3, g4⟩ := K7.G.five
    obtain ⟨t0, t1⟩ := K7.T.two
    have R7 := (HR.out.below K7.bel (Nat.le_refl _)).more K7.bel.size
    have P7 := H3.out.later K7.bel
    have hSG : (⟨S, 3, none⟩ : Addr).block ≠ w.heap.size := by show S ≠ _; omega
    have hST : (⟨S, 3, none⟩ : Addr).block ≠ w.heap.size + 1 + 1 := by show S ≠ _; omega
    have hSl := K7.Y.lt
    go_region_held3 (fun w' => w'.cell? ⟨w.heap.size, 0, none⟩ = some (.int .i64 s) ∧ w'.cell? ⟨w.heap.size, 1, none⟩ = some (.int .i64 l) ∧ w'.cell? ⟨w.heap.size, 2, none⟩ = some (.int .i64 c) ∧ w'.cell? ⟨w.heap.size, 3, none⟩ = some (.int .i64 sh) ∧ w'.cell? ⟨w.heap.size, 4, none⟩ = some (.slice A n cap) ∧ w'.cell? ⟨w.heap.size + 1 + 1, 0, none⟩ = some (.int .i64 ct) ∧ w'.cell? ⟨w.heap.size + 1 + 1, 1, none⟩ = some (.int .i64 cq))
      (first | (with_reducible exact KD) | (with_reducible exact KB) | (with_reducible exact KA) | go_keep)
      (first
        | (go_at_call 137; refine (l4Ready_is x ct cq v _).mono ?_; rintro e w8 ⟨rfl, hb8⟩; have F8 := bel_drew' hb8; have K8 := K7.later F8; have R8 := (R7.below F8 (Nat.le_refl _)).more F8.size; have P8 := P7.later F8; have KA := sevenGD K8.G K8.T; have hs8 := F8.size)
        | (go_at_call 220; refine (specGoodO_is s l c sh A n cap zs 1 x ct cq v L m mc cs _ HM.out R8 hn P8).mono ?_; rintro e w9 ⟨q9, c9, rfl, hw9, hb9⟩; rw [hJ.out] at hw9 ⊢; have K9 := K8.later hb9; have KB := sevenGD K9.G K9.T; have KD := sevenGD (K9.G.far (p := ⟨S, 3, none⟩) hSG (.slice (some ⟨q9, 0, none⟩) J.length c9)) (K9.T.far (p := ⟨S, 3, none⟩) hST (.slice (some ⟨q9, 0, none⟩) J.length c9)); have y3 := K9.Y.cell 3; have fy := K9.Y.frozen; have HP := Lib.hid (lv_newV (w1 := w8) (c5 := c9) K9 (by omega) hw9); have Z9 := Lib.hid (K9.Y.set 3 (.slice (some ⟨q9, 0, none⟩) J.length c9)); have X9 := Lib.hid (K9.X.far (p := ⟨S, 3, none⟩) (by show S ≠ _; omega) (.slice (some ⟨q9, 0, none⟩) J.length c9))))
    obtain ⟨z0, z1, z2, z3, z4⟩ := (show Box _ S 80 #[.int .i64 ct, .int .i64 cq, .int .i64 v, .slice (some ⟨q9, 0, none⟩) J.length c9, .slice (some ⟨a6, 0, none⟩) os.length c6] from Z9.out).five
    obtain ⟨x0, x1, x2, x3, x4⟩ := X9.out.five
    have fx := X9.out.frozen
    clear KA KB KD K7 K8 K9 y3 fy R7 R8 P7 P8 g0 g1 g2 g3 g4 t0 t1 hw9 hb9 Z9 X9
    generalize (w9.setCell _ _ : World) = w10 at HP z0 z1 z2 z3 z4 x0 x1 x2 x3 x4 fx ⊢
    go_wp2
    exact bodyPost_ret (v := .tuple #[.agg #[.int .i64 ct, .int .i64 cq, .int .i64 v, .slice (some ⟨q9, 0, none⟩) J.length c9, .slice (some ⟨a6, 0, none⟩) os.length c6], .bool true]) (by simp [results, Tryz.results182, go_sem, x0, x1, x2, x3, x4]) rfl (.inr ⟨by have := HC.out; omega, hJ.out.symm ▸ HP.out _ _ _ _ _⟩)
  · have HC := Lib.hid hc
    have hc' : decide (0 < cmpN ct cq rt rq) = false := decide_eq_false hc
    obtain ⟨y0, y1, y2, y3, y4⟩ := K6.Y.five
    obtain ⟨x0, x1, x2, x3, x4⟩ := K6.X.five
    have fx := K6.X.frozen
    have HP := Lib.hid (lw_oldV (f := true) K6)
    clear K6
    go_wp2
    exact bodyPost_ret (v := .tuple #[.agg #[.int .i64 rt, .int .i64 rq, .int .i64 rv, .slice (some ⟨a5, 0, none⟩) ps.length c5, .slice (some ⟨a6, 0, none⟩) os.length c6], .bool true]) (by simp [results, Tryz.results182, go_sem, x0, x1, x2, x3, x4]) rfl (.inl ⟨by have := HC.out; omega, HP.out _ _ _ _ _⟩)

end Go.Proofs.YtjdepjpjjgkmbaaGreat

/- Opens that are put to their places stay in order; mathematics alone; no conditions. -/
namespace Go.Proofs.YtjdepjpjjgkmbaaGreat
open Go.RowKit

/-- Opens in order, all right. -/
theorem opsB_iff (R : Opn → Bool) (os : List Opn) : opsB R os = true ↔ (∀ i, i < os.length → R (oth os i) = true) ∧ ∀ i, i + 1 < os.length → (oth os i).1 < (oth os (i + 1)).1 := by
  constructor
  · intro h
    unfold opsB at h
    rw [List.all_eq_true] at h
    refine ⟨fun i hi => ?_, fun i hi => ?_⟩
    · have := h i (List.mem_range.2 hi)
      unfold stepB at this
      rw [Bool.and_eq_true] at this
      exact this.1
    · have := h (i + 1) (List.mem_range.2 hi)
      unfold stepB at this
      simp only [Bool.and_eq_true, Bool.or_eq_true, decide_eq_true_eq, Nat.add_sub_cancel] at this
      rcases this.2 with h1 | h1
      · omega
      · exact h1
  · rintro ⟨h1, h2⟩
    refine opsB_true fun i hi => ?_
    unfold stepB
    rcases i with _ | i
    · simp [h1 0 hi]
    · have := h2 i hi
      simp [h1 (i + 1) hi, this]
theorem opsB_lt {R : Opn → Bool} {os : List Opn} (h : opsB R os = true) : ∀ i j, i < j → j < os.length → (oth os i).1 < (oth os j).1 := by
  obtain ⟨-, h2⟩ := (opsB_iff R os).1 h
  intro i j hij
  induction j with
  | zero => omega
  | succ j ih =>
    intro hj
    have h3 := h2 j hj
    by_cases e : i = j
    · subst e; exact h3
    · have := ih (by omega) (by omega)
      omega
theorem oth_put {os : List Opn} {i j : Nat} {o : Opn} (hi : i ≤ os.length) (_hj : j ≤ os.length) (hij : i ≤ j) (x : Nat) :
    oth (putO os i j o) x = if x < i then oth os x else if x = i then o else oth os (x - (i + 1) + j) := by
  unfold oth putO
  simp only [List.getD_eq_getElem?_getD]
  rw [List.append_assoc]
  by_cases h1 : x < i
  · rw [if_pos h1, List.getElem?_append_left (by rw [List.length_take]; omega), List.getElem?_take, if_pos h1]
  · rw [if_neg h1, List.getElem?_append_right (by rw [List.length_take]; omega), List.length_take, Nat.min_eq_left hi]
    by_cases h2 : x = i
    · subst h2
      simp
    · rw [if_neg h2, List.getElem?_append_right (by simp; omega), List.getElem?_drop]
      simp only [List.length_singleton]
      rw [show j + (x - i - 1) = x - (i + 1) + j by omega]
theorem beh_ge {c : Int} {os : List Opn} : ∀ k, k ≤ os.length → (∀ j, behN c (os.take k) ≤ j → j < k → ¬ (oth os j).1 < c) ∧ (0 < behN c (os.take k) → (oth os (behN c (os.take k) - 1)).1 < c) := by
  intro k
  induction k with
  | zero => intro _; exact ⟨fun j _ hj => absurd hj (by omega), fun h => absurd h (by simp [behN])⟩
  | succ k ih =>
    intro hk
    obtain ⟨h1, h2⟩ := ih (by omega)
    rw [behN_snoc (by omega)]
    by_cases hc : (oth os k).1 < c
    · rw [if_pos hc]
      exact ⟨fun j h3 h4 => absurd h4 (by omega), fun _ => by simpa using hc⟩
    · rw [if_neg hc]
      refine ⟨fun j h3 h4 => ?_, h2⟩
      by_cases e : j = k
      · subst e; exact hc
      · exact h1 j h3 (by omega)
theorem opsB_with {R : Opn → Bool} {os : List Opn} {o : Opn} (h : opsB R os = true) (ho : R o = true) : opsB R (withO os o) = true := by
  have hlt := opsB_lt h
  obtain ⟨h1, h2⟩ := (opsB_iff R os).1 h
  rw [opsB_iff]
  rcases first_cases o.1 os with ⟨i, hf⟩ | hn
  · rw [withO_first hf]
    have hil := hf.1
    have hlen : (putO os i (i + 1) o).length = os.length := by rw [putO_len (by omega) (by omega)]; omega
    have hoth : ∀ x, oth (putO os i (i + 1) o) x = if x = i then o else oth os x := fun x => by
      rw [oth_put (by omega) (by omega) (by omega)]
      by_cases a : x < i
      · rw [if_pos a, if_neg (by omega)]
      · rw [if_neg a]
        by_cases b : x = i
        · rw [if_pos b, if_pos b]
        · rw [if_neg b, if_neg b, show x - (i + 1) + (i + 1) = x by omega]
    have hk := hf.2.1
    refine ⟨fun x hx => ?_, fun x hx => ?_⟩
    · rw [hoth]
      split
      · exact ho
      · exact h1 x (by omega)
    · rw [hoth, hoth]
      have := h2 x (by omega)
      split <;> split
      · omega
      · subst_vars; rw [hk] at this; exact this
      · rename_i a b; rw [← hk, ← b]; exact this
      · exact this
  · rw [withO_none hn]
    obtain ⟨b, hb⟩ : ∃ b, behN o.1 os = b := ⟨_, rfl⟩
    have hbl := behN_le o.1 os
    obtain ⟨g1, g2⟩ := beh_ge (c := o.1) os.length (Nat.le_refl _)
    rw [List.take_length] at g1 g2
    rw [hb] at hbl g1 g2 ⊢
    have hlen : (putO os b b o).length = os.length + 1 := by rw [putO_len hbl hbl]; omega
    have hoth := oth_put (o := o) hbl hbl (Nat.le_refl b)
    refine ⟨fun x hx => ?_, fun x hx => ?_⟩
    · rw [hoth]
      split
      · exact h1 x (by omega)
      · split
        · exact ho
        · exact h1 _ (by omega)
    · rw [hoth, hoth]
      by_cases a : x + 1 < b
      · rw [if_pos (by omega), if_pos a]
        exact h2 x (by omega)
      · by_cases e : x + 1 = b
        · rw [if_pos (by omega), if_neg (by omega), if_pos e]
          have := g2 (by omega)
          rw [show b - 1 = x by omega] at this
          exact this
        · by_cases f : x = b
          · subst f
            rw [if_neg (by omega), if_pos rfl, if_neg (by omega), if_neg (by omega), show x + 1 - (x + 1) + x = x by omega]
            have hx1 : x < os.length := by omega
            have := g1 x (Nat.le_refl _) hx1
            have := hn x hx1
            omega
          · rw [if_neg (by omega), if_neg f, if_neg (by omega), if_neg (by omega), show x - (b + 1) + b = x - 1 by omega, show x + 1 - (b + 1) + b = x - 1 + 1 by omega]
            exact h2 (x - 1) (by omega)

end Go.Proofs.YtjdepjpjjgkmbaaGreat

/- What is replayed keeps every shelf right; what the functions of chapter 7 answer, as a shelf's data; no conditions. -/
namespace Go.Proofs.YtjdepjpjjgkmbaaGreat
open Go Go.RowKit

/-- Is a shelf right? -/
def regG (g : GrpD) (x : Int) (r : RegD) : Bool := regB g.s g.l g.c g.sh g.zs x r.t r.q r.v r.ps r.os
def goodS (g : GrpD) (rs : List RegD) : Prop := ∀ i (h : i < rs.length), regG g (i : Int) rs[i] = true
theorem lef_wrt {s l c sh : Int} {zs : List Int} {x ct cq v : Int} {ps : List (Int × Int)} (h : lefB s l c sh zs x ct cq v ps = true) (hz : ¬ (ct = 0 ∧ cq = 0)) : wrtB s l c sh zs x ct cq v ps = true := by
  unfold lefB at h
  unfold wrtB
  simp only [Bool.and_eq_true, Bool.not_eq_true', decide_eq_false_iff_not] at h ⊢
  exact ⟨hz, h.1⟩
theorem knd_parts {s l c sh : Int} {zs : List Int} {r2 r3 r4 r5 r6 r7 : Int} {ps : List (Int × Int)} (h : kndB s l c sh zs r2 r3 r4 r5 r6 r7 ps = true) :
    (r2 = 1 ∧ ps = [] ∧ opnB s l c sh zs (r4, r5, r6, r7) = true) ∨ (r2 = 2 ∧ r4 = 0 ∧ ¬ (r5 = 0 ∧ r6 = 0) ∧ lefB s l c sh zs r3 r5 r6 r7 ps = true) := by
  unfold kndB at h
  split at h
  · simp only [Bool.and_eq_true, decide_eq_true_eq] at h
    exact .inl ⟨by assumption, h.1, h.2⟩
  · split at h
    · simp only [Bool.and_eq_true, Bool.not_eq_true', decide_eq_true_eq, decide_eq_false_iff_not] at h
      exact .inr ⟨by assumption, h.1.1, h.1.2, h.2⟩
    · cases h
theorem reg_zero {g : GrpD} {x : Int} (hok : okG g = true) (hx : inB x 0 (g.sh - 1) = true) : regG g x zeroR = true := by
  unfold okG at hok
  simp [regG, regB, lefB, proB, lefS, zeroR, hok, hx, opsB]
theorem good_zero {g : GrpD} (hok : okG g = true) : goodS g (List.replicate g.sh.toNat zeroR) := by
  intro i hi
  rw [List.length_replicate] at hi
  rw [List.getElem_replicate]
  have hs := okB_sh hok
  exact reg_zero hok (inB_true.2 ⟨by omega, by omega⟩)
/-- A shelf that is right stays so, whatever right record is done to it. -/
theorem onto_good {g : GrpD} {d : RecD} {r : RegD} (hr : regG g d.r3 r = true) (hk : kndB g.s g.l g.c g.sh g.zs d.r2 d.r3 d.r4 d.r5 d.r6 d.r7 d.ps = true) : regG g d.r3 (ontoD g d r) = true := by
  rcases knd_parts hk with ⟨h2, -, ho⟩ | ⟨h2, -, hz, hl⟩
  · unfold ontoD
    rw [if_pos h2]
    unfold regG regB at hr ⊢
    rw [Bool.and_eq_true] at hr ⊢
    exact ⟨hr.1, opsB_with hr.2 ho⟩
  · unfold ontoD
    rw [if_neg (by omega)]
    obtain ⟨-, -, h3, -⟩ := outW_again hr (lef_wrt hl hz) rfl
    exact h3
theorem step_good {g : GrpD} {rs : List RegD} {d : RecD} (hg : goodS g rs) (hk : kndB g.s g.l g.c g.sh g.zs d.r2 d.r3 d.r4 d.r5 d.r6 d.r7 d.ps = true) (h0 : 0 ≤ d.r3) (hl : d.r3.toNat < rs.length) : goodS g (stepR g rs d) := by
  intro i hi
  unfold stepR at hi ⊢
  rw [List.length_set] at hi
  by_cases e : d.r3.toNat = i
  · subst e
    have hx : ((d.r3.toNat : Nat) : Int) = d.r3 := by omega
    rw [List.getElem_set_self, hx]
    refine onto_good ?_ hk
    have h := hg _ hl
    rw [hx] at h
    unfold regOf
    rw [List.getD_eq_getElem?_getD, List.getElem?_eq_getElem hl]
    exact h
  · rw [List.getElem_set_ne e]
    exact hg i hi
theorem good_shelves {g : GrpD} {ds : List RecD} (hok : okG g = true) : ∀ k, k ≤ ds.length → (∀ i, i < k → isAt g ds i = true) → goodS g (shelves g (ds.take k)) := by
  intro k
  induction k with
  | zero => intro _ _; exact good_zero hok
  | succ k ih =>
    intro hk ha
    rw [shelves_snoc g ds (by omega)]
    have h := ha k (by omega)
    rw [isAt_lt (by omega)] at h
    simp only [Bool.and_eq_true] at h
    obtain ⟨h0, h1, -, hkn⟩ := rok_shelf h.2
    exact step_good (ih (by omega) (fun i hi => ha i (by omega))) hkn h0 (by rw [shelves_len]; omega)

theorem own_cap {w : World} {base : Nat} {t : TypeId} {k g n cap : Nat} {xs : List Value} (h : w.ownsRow base t k (.slice (some ⟨g, 0, none⟩) n cap) n xs) : n ≤ cap ∧ cap ≤ maxLen := by
  rcases h.2 with ⟨h', _⟩ | ⟨g', cap', cur, h', hb, hg, hnc, hcm, _⟩
  · cases h'
  · injection h' with _ _ e3
    subst e3
    exact ⟨hnc, hcm⟩
/-- What an open answers; what a writing answers: the shelf's data. -/
theorem regR_at {w w' : World} {e : Ending} {rt rq rv : Int} {ps : List (Int × Int)} {os : List Opn} (h : RegR w rt rq rv ps os e w') :
    ∃ u v, e = .returned (.agg #[.int .i64 rt, .int .i64 rq, .int .i64 rv, u, v]) ∧ LieR ⟨rt, rq, rv, ps, os⟩ w' (Iv w.heap.size w'.heap.size) (.agg #[.int .i64 rt, .int .i64 rq, .int .i64 rv, u, v]) ∧ Below w.heap.size w w' := by
  obtain ⟨B, u, v, hB, hB', rfl, h1, h2, hb⟩ := h
  obtain ⟨A, c, rfl, -⟩ := h1.form
  obtain ⟨A', c', rfl, -⟩ := h2.form
  exact ⟨_, _, rfl, ⟨A, _, c, A', _, c', w.heap.size, B, w'.heap.size, rfl, h1, h2.resQ, hB, hB', Nat.le_refl _, fun b hb => hb⟩, hb⟩
theorem spV_at {w w' : World} {e : Ending} {t q v : Int} {cs : List (Int × Int)} {os : List Opn} {f : Bool} (h : SpV w t q v cs os f e w') :
    ∃ u x, e = .returned (.tuple #[.agg #[.int .i64 t, .int .i64 q, .int .i64 v, u, x], .bool f]) ∧ AtW ⟨t, q, v, cs, os⟩ w' (Iv w.heap.size w'.heap.size) (.agg #[.int .i64 t, .int .i64 q, .int .i64 v, u, x]) ∧ Below w.heap.size w w' := by
  obtain ⟨g1, c1, g2, c2, rfl, -, h1, h2, hb⟩ := h
  obtain ⟨p1, p2⟩ := own_cap h1
  obtain ⟨q1, q2⟩ := own_cap h2
  exact ⟨_, _, rfl, ⟨_, _, c1, _, _, c2, rfl, Nat.le_trans p1 p2, Nat.le_trans q1 q2, ⟨own_pairs h1, fun _ b o e => by injection e with e; injection e with e; exact e ▸ h1.lt g1 rfl⟩, ⟨own_quads h2, fun _ b o e => by injection e with e; injection e with e; exact e ▸ h2.lt g2 rfl⟩, .inl ⟨g1, 0, rfl⟩, .inl ⟨g2, 0, rfl, q1, q2⟩⟩, hb⟩
theorem wroteV_at {w w' : World} {e : Ending} {g : GrpD} {d : RecD} {r : RegD} (hr : regG g d.r3 r = true) (hk : kndB g.s g.l g.c g.sh g.zs d.r2 d.r3 d.r4 d.r5 d.r6 d.r7 d.ps = true) (h2 : d.r2 ≠ 1) (h : WroteV w g.s g.l g.c g.sh g.zs d.r3 r.t r.q r.v r.ps r.os d.r5 d.r6 d.r7 d.ps e w') :
    ∃ u x, e = .returned (.tuple #[.agg #[.int .i64 (ontoD g d r).t, .int .i64 (ontoD g d r).q, .int .i64 (ontoD g d r).v, u, x], .bool true]) ∧ AtW (ontoD g d r) w' (Iv w.heap.size w'.heap.size) (.agg #[.int .i64 (ontoD g d r).t, .int .i64 (ontoD g d r).q, .int .i64 (ontoD g d r).v, u, x]) ∧ Below w.heap.size w w' := by
  rcases knd_parts hk with ⟨h, -⟩ | ⟨-, -, hz, hl⟩
  · exact absurd h h2
  have hw := lef_wrt hl hz
  have hc := cmp_pos (wrt_parts hw).1 (reg_stamp hr)
  have hr' : regB g.s g.l g.c g.sh g.zs d.r3 r.t r.q r.v r.ps r.os = true := hr
  have ho : ontoD g d r = if cmpN d.r5 d.r6 r.t r.q = 1 then ⟨d.r5, d.r6, d.r7, goodP (rB g.s g.l g.c g.sh g.zs 1 d.r3 d.r5 d.r6 d.r7) d.ps, r.os⟩ else ⟨r.t, r.q, r.v, r.ps, r.os⟩ := by
    unfold ontoD outW
    rw [if_neg h2, if_neg (by rw [hr']; simp), if_neg (by rw [hw]; simp)]
    split <;> rfl
  rw [ho]
  rcases h with ⟨hn, h⟩ | ⟨hp, h⟩
  · rw [if_neg (fun e => hn (hc.2 e))]
    exact spV_at h
  · rw [if_pos (hc.1 hp)]
    exact spV_at h
end Go.Proofs.YtjdepjpjjgkmbaaGreat

namespace Go.Proofs.YtjdepjpjjgkmbaaGreat
open Go Go.RowKit

theorem results_row9 {P : Program} {fn : Func} {x : Tmp} {ty : TypeId} (h : fn.results = #[.cell x ty]) (tmps : Array Value) (w : World) (g : Nat) (t : TypeId) (cs : Array Value) (d : TypeDesc)
    (hx : tmps.getD x undef = .pointer (some ⟨g, 0, none⟩)) (hg : Box w g t cs)
    (hu : P.underlying ty = some d) (hd : (match d with | .struct _ | .array _ _ => true | _ => false) = true) (hi : (P.info? ty).map (·.size) = some cs.size) :
    (results fn tmps).run P w = .ok (.agg cs) w := by
  have ex : tmps[x]?.getD undef = .pointer (some ⟨g, 0, none⟩) := by simpa using hx
  simp [results, h, ex, asAddr, run_loadVar_row w g t ty cs (0, 0) d hg hu hd hi]
/-- A shelf that is answered: its data, its lists in new blocks. -/
def MadeR (o : RegD) (w : World) (e : Ending) (w' : World) : Prop := ∃ u v, e = .returned (.agg #[.int .i64 o.t, .int .i64 o.q, .int .i64 o.v, u, v]) ∧ LieR o w' (Iv w.heap.size w'.heap.size) (.agg #[.int .i64 o.t, .int .i64 o.q, .int .i64 o.v, u, v]) ∧ Below w.heap.size w w'
theorem wrR_at {w w' : World} {o : Out} {e : Ending} (h : WrR w o e w') : ∃ u v, e = .returned (.tuple #[.agg #[.int .i64 o.t, .int .i64 o.q, .int .i64 o.v, u, v], .bool o.f]) ∧ LieR ⟨o.t, o.q, o.v, o.cs, o.os⟩ w' (Iv w.heap.size w'.heap.size) (.agg #[.int .i64 o.t, .int .i64 o.q, .int .i64 o.v, u, v]) ∧ Below w.heap.size w w' := by
  obtain ⟨B, A, n, c, A', n', c', hB, hB', rfl, h1, h2, hb⟩ := h
  exact ⟨_, _, rfl, ⟨A, n, c, A', n', c', w.heap.size, B, w'.heap.size, rfl, h1, h2.resQ, hB, hB', Nat.le_refl _, fun b hb => hb⟩, hb⟩
/-- The shelf is laid into the variable of the answer. -/
theorem madeR_put {o : RegD} {w w2 w3 : World} {R : Nat} {C : Array Value} {N : Nat} (hb : Below w.heap.size w w2) (hR : w.heap.size ≤ R) (hRN : R < N) (_hN : N ≤ w2.heap.size) (hL : LieR o w2 (Iv N w2.heap.size) (.agg C)) (hw : w3 = w2.setRow R C) :
    LieR o w3 (Iv w.heap.size w3.heap.size) (.agg C) ∧ Below w.heap.size w w3 := by
  have ht := turns_setRow w2 R C
  rw [hw]
  exact ⟨(keepsLR o).sub ((keepsLR o).turn hL ht (iv_one (.inl hRN))) (fun b hb => ⟨by have := hb.1; omega, by have := hb.2; rw [size_setRow]; exact this⟩), ht.below hb (fun i hi => by omega)⟩

set_option maxRecDepth 100000 in
set_option maxHeartbeats 16000000 in
theorem onto_is (g : GrpD) (d : RecD) (r : RegD) (A : Option Addr) (n cap : Nat) (L : Option Addr) (m mc : Nat) (P : Option Addr) (p pc : Nat) (Q : Option Addr) (q qc : Nat) (w : World)
    (hm : n ≤ maxLen) (hgr : Row w w.heap.size A n g.zs) (hmc : m ≤ 4194304) (hp : Pairs w w.heap.size L m d.ps) (h1 : Slc w (.slice P p pc) r.ps) (h2 : SlcQ w (.slice Q q qc) r.os) (hs1 : r.ps.length ≤ 2000000) (hs2 : r.os.length ≤ 2000000) (hlp : r.ps.length = p) (hlq : r.os.length = q) :
    Calls Tryz.prog 178 #[.agg #[.int .i64 d.r1, .int .i64 d.r2, .int .i64 d.r3, .int .i64 d.r4, .int .i64 d.r5, .int .i64 d.r6, .int .i64 d.r7, .slice L m mc, .int .i64 d.r8], .agg #[.int .i64 g.s, .int .i64 g.l, .int .i64 g.c, .int .i64 g.sh, .slice A n cap], .agg #[.int .i64 r.t, .int .i64 r.q, .int .i64 r.v, .slice P p pc, .slice Q q qc]] w (MadeR (ontoD g d r) w) := by
  have E := bel_trans (bel_trans (bel_trans (bel_alloc w (.cells #[.int .i64 d.r1, .int .i64 d.r2, .int .i64 d.r3, .int .i64 d.r4, .int .i64 d.r5, .int .i64 d.r6, .int .i64 d.r7, .slice L m mc, .int .i64 d.r8] 46)) (bel_alloc _ (.cells #[.int .i64 g.s, .int .i64 g.l, .int .i64 g.c, .int .i64 g.sh, .slice A n cap] 26))) (bel_alloc _ (.cells #[.int .i64 r.t, .int .i64 r.q, .int .i64 r.v, .slice P p pc, .slice Q q qc] 80))) (bel_alloc _ (.cells #[.int .i64 0, .int .i64 0, .int .i64 0, .slice none 0 0, .slice none 0 0] 80))
  have D := (((Box.new w 46 #[.int .i64 d.r1, .int .i64 d.r2, .int .i64 d.r3, .int .i64 d.r4, .int .i64 d.r5, .int .i64 d.r6, .int .i64 d.r7, .slice L m mc, .int .i64 d.r8]).alloc (.cells #[.int .i64 g.s, .int .i64 g.l, .int .i64 g.c, .int .i64 g.sh, .slice A n cap] 26)).alloc (.cells #[.int .i64 r.t, .int .i64 r.q, .int .i64 r.v, .slice P p pc, .slice Q q qc] 80)).alloc (.cells #[.int .i64 0, .int .i64 0, .int .i64 0, .slice none 0 0, .slice none 0 0] 80)
  have G := ((Box.new (w.alloc (.cells #[.int .i64 d.r1, .int .i64 d.r2, .int .i64 d.r3, .int .i64 d.r4, .int .i64 d.r5, .int .i64 d.r6, .int .i64 d.r7, .slice L m mc, .int .i64 d.r8] 46)) 26 #[.int .i64 g.s, .int .i64 g.l, .int .i64 g.c, .int .i64 g.sh, .slice A n cap]).alloc (.cells #[.int .i64 r.t, .int .i64 r.q, .int .i64 r.v, .slice P p pc, .slice Q q qc] 80)).alloc (.cells #[.int .i64 0, .int .i64 0, .int .i64 0, .slice none 0 0, .slice none 0 0] 80)
  have V := (Box.new ((w.alloc (.cells #[.int .i64 d.r1, .int .i64 d.r2, .int .i64 d.r3, .int .i64 d.r4, .int .i64 d.r5, .int .i64 d.r6, .int .i64 d.r7, .slice L m mc, .int .i64 d.r8] 46)).alloc (.cells #[.int .i64 g.s, .int .i64 g.l, .int .i64 g.c, .int .i64 g.sh, .slice A n cap] 26)) 80 #[.int .i64 r.t, .int .i64 r.q, .int .i64 r.v, .slice P p pc, .slice Q q qc]).alloc (.cells #[.int .i64 0, .int .i64 0, .int .i64 0, .slice none 0 0, .slice none 0 0] 80)
  have X := Box.new (((w.alloc (.cells #[.int .i64 d.r1, .int .i64 d.r2, .int .i64 d.r3, .int .i64 d.r4, .int .i64 d.r5, .int .i64 d.r6, .int .i64 d.r7, .slice L m mc, .int .i64 d.r8] 46)).alloc (.cells #[.int .i64 g.s, .int .i64 g.l, .int .i64 g.c, .int .i64 g.sh, .slice A n cap] 26)).alloc (.cells #[.int .i64 r.t, .int .i64 r.q, .int .i64 r.v, .slice P p pc, .slice Q q qc] 80)) 80 #[.int .i64 0, .int .i64 0, .int .i64 0, .slice none 0 0, .slice none 0 0]
  simp only [World.size_alloc] at G V X
  have HR := Lib.hid ((hgr.below E (Nat.le_refl _)).more E.size)
  have HP := Lib.hid (hp.later E)
  have H1 := Lib.hid (h1.later E)
  have H2 := Lib.hid (h2.later E)
  have HM := Lib.hid hm
  have HL1 := Lib.hid hlp
  have HL2 := Lib.hid hlq
  clear hgr hp h1 h2 hm hlp hlq
  go_enter Tryz.func178, Tryz.ntmps178
  go_upto_region 1 with fail
  generalize ((((w.alloc _).alloc _).alloc _).alloc _ : World) = w0 at E D G V X HR HP H1 H2 ⊢
  have d1 := D.cell 1
  have hXl := X.lt
  have IX := Lib.hid (show (Tryz.prog.info? 80).map (·.size) = some 5 from by kernel_rfl)
  by_cases h2 : d.r2 = 1
  · skip
    have h2b : (d.r2 == 1) = true := by simpa using h2
    have hh2 := Lib.hid h2
    clear h2
    go_upto_region 2 with fail
    clear d1 h2b
    refine wp_region_sink 5 (fun w' => Box w' w.heap.size 46 #[.int .i64 d.r1, .int .i64 d.r2, .int .i64 d.r3, .int .i64 d.r4, .int .i64 d.r5, .int .i64 d.r6, .int .i64 d.r7, .slice L m mc, .int .i64 d.r8] ∧ Box w' (w.heap.size + 1 + 1) 80 #[.int .i64 r.t, .int .i64 r.q, .int .i64 r.v, .slice P p pc, .slice Q q qc]) (by kernel_rfl) ⟨D, V⟩ (fun hH => ?_)
    have hb := (Below.refl w0.heap.size w0).drew
    replace E := bel_trans E hb
    replace D := D.later hb D.lt
    replace V := V.later hb V.lt
    replace X := X.later hb X.lt
    replace H1 := Lib.hid (H1.out.later hb)
    replace H2 := Lib.hid (H2.out.later hb)
    replace hXl := Nat.lt_of_lt_of_le hXl hb.size
    clear hb
    generalize w0.drew = w1 at E D V X H1 H2 hH hXl ⊢
    refine wpAnyE_takeS (i := 0) (v := .agg #[.int .i64 r.t, .int .i64 r.q, .int .i64 r.v, .slice P p pc, .slice Q q qc]) (by simp only [List.getElem?_toArray, List.getElem?_cons_zero]; rfl) (by kernel_rfl) (by kernel_rfl) (by kernel_rfl) (by exact fun _ _ _ h => h) (by kernel_rfl) ?y0 hH ?_
    case y0 => exact yields_box 80 _ rfl (w.heap.size + 1 + 1) rfl 80 #[.int .i64 r.t, .int .i64 r.q, .int .i64 r.v, .slice P p pc, .slice Q q qc] (fun _ h => h.2) _ Tryz.underlying80 rfl IX.out (by first | rfl | simp [Region.wanted, yielded] | (simp [Region.wanted, yielded, Act.put] <;> omega))
    try simp only [Act.put, List.setIfInBounds_toArray, List.set_cons_zero, List.set_cons_succ]
    refine wpAnyE_takeS (i := 1) (v := .agg #[.int .i64 d.r1, .int .i64 d.r2, .int .i64 d.r3, .int .i64 d.r4, .int .i64 d.r5, .int .i64 d.r6, .int .i64 d.r7, .slice L m mc, .int .i64 d.r8]) (by simp only [List.getElem?_toArray, List.getElem?_cons_succ, List.getElem?_cons_zero]; rfl) (by kernel_rfl) (by kernel_rfl) (by kernel_rfl) (by exact fun _ _ _ h => h) (by kernel_rfl) ?y1 hH ?_
    case y1 => exact yields_box 46 _ rfl (w.heap.size) rfl 46 #[.int .i64 d.r1, .int .i64 d.r2, .int .i64 d.r3, .int .i64 d.r4, .int .i64 d.r5, .int .i64 d.r6, .int .i64 d.r7, .slice L m mc, .int .i64 d.r8] (fun _ h => h.1) _ Tryz.underlying46 rfl (by kernel_rfl) (by first | rfl | simp [Region.wanted, yielded] | (simp [Region.wanted, yielded, Act.put] <;> omega))
    try simp only [Act.put, List.setIfInBounds_toArray, List.set_cons_zero, List.set_cons_succ]
    refine wpAnyE_one (i := 2) (by kernel_rfl) (by simp only [List.getElem?_toArray, List.getElem?_cons_succ, List.getElem?_cons_zero]; rfl) (fun K' hK => ?_)
    go_simp
    refine (recOpen_is d.r1 d.r2 d.r3 d.r4 d.r5 d.r6 d.r7 L m mc d.r8 w1).mono ?_
    rintro e w2 ⟨rfl, hb⟩
    replace E := bel_trans E hb
    replace D := D.later hb D.lt
    replace V := V.later hb V.lt
    replace X := X.later hb X.lt
    replace H1 := Lib.hid (H1.out.later hb)
    replace H2 := Lib.hid (H2.out.later hb)
    replace hXl := Nat.lt_of_lt_of_le hXl hb.size
    clear hb
    obtain ⟨w1, rfl⟩ : ∃ x, x = w2 := ⟨_, rfl⟩
    clear hH
    refine hK.out _ _ ⟨D, V⟩ (fun hH => ?_)
    clear hK K'
    try simp only [Act.put, List.setIfInBounds_toArray, List.set_cons_zero, List.set_cons_succ]
    refine wpAnyE_one (i := 3) (by kernel_rfl) (by simp only [List.getElem?_toArray, List.getElem?_cons_succ, List.getElem?_cons_zero]; rfl) (fun K' hK => ?_)
    go_simp
    refine (withOpen_is r.t r.q r.v P p pc Q q qc d.r4 d.r5 d.r6 d.r7 r.ps r.os w1 hs1 hs2 H1.out H2.out).mono ?_
    rintro e w2 hE
    obtain ⟨u, v, rfl, hL, hb⟩ := regR_at hE
    have hN := hb.size
    replace E := bel_trans E hb
    replace D := D.later hb D.lt
    replace V := V.later hb V.lt
    replace X := X.later hb X.lt
    have hz := X.lt
    clear hE hb
    have hon : ontoD g d r = ⟨r.t, r.q, r.v, r.ps, withO r.os (d.r4, d.r5, d.r6, d.r7)⟩ := by unfold ontoD; rw [if_pos hh2.out]
    replace hon := Lib.hid hon
    clear hH
    refine hK.out _ _ ⟨D, V⟩ (fun hH => ?_)
    clear hK K'
    try simp only [Act.put, List.setIfInBounds_toArray, List.set_cons_zero, List.set_cons_succ]
    have OL := Lib.hid (oneR hL.at)
    generalize w1.heap.size = N at hL hN hXl
    have ht := turns_setRow w2 (w.heap.size + 1 + 1 + 1) #[.int .i64 r.t, .int .i64 r.q, .int .i64 r.v, u, v]
    have B := Lib.hid (X.setRow #[.int .i64 r.t, .int .i64 r.q, .int .i64 r.v, u, v])
    obtain ⟨hL2, hb2⟩ := madeR_put (w3 := w2.setRow (w.heap.size + 1 + 1 + 1) #[.int .i64 r.t, .int .i64 r.q, .int .i64 r.v, u, v]) E (by omega) hXl hN hL rfl
    replace hL2 := Lib.hid hL2
    replace hb2 := Lib.hid hb2
    refine wpAnyE_end (i := 4) (by kernel_rfl) (by simp only [List.getElem?_toArray, List.getElem?_cons_succ, List.getElem?_cons_zero]; rfl) (by kernel_rfl) (fun K' hK => ?_)
    rw [if_pos (by first | rfl | kernel_rfl | simp [Region.wanted, yielded])]
    refine wp_store_row 80 _ _ rfl (w.heap.size + 1 + 1 + 1) #[.int .i64 r.t, .int .i64 r.q, .int .i64 r.v, u, v] rfl rfl 80 #[.int .i64 0, .int .i64 0, .int .i64 0, .slice none 0 0, .slice none 0 0] X IX.out rfl OL.out.2 ?_
    refine hK.out _ _ ⟨D.turn ht (by omega), V.turn ht (by omega)⟩ ?_
    clear hK K'
    try simp only [Act.put]
    clear hH D V X ht hL
    go_wp2
    exact bodyPost_ret (v := .agg #[.int .i64 r.t, .int .i64 r.q, .int .i64 r.v, u, v]) (results_row9 (Tryz.results178) _ _ (w.heap.size + 1 + 1 + 1) 80 #[.int .i64 r.t, .int .i64 r.q, .int .i64 r.v, u, v] _ rfl B.out Tryz.underlying80 rfl IX.out) rfl (by rw [hon.out]; exact ⟨u, v, rfl, hL2.out, hb2.out⟩)
  have h2b : (d.r2 == 1) = false := by simpa using h2
  have hh2 := Lib.hid h2
  clear h2
  go_upto_region 3 with fail
  clear d1 h2b
  obtain ⟨d0, d1, d2, d3, d4, d5, d6, d7, d8⟩ := D.nine
  obtain ⟨g0, g1, g2, g3, g4⟩ := G.five
  obtain ⟨v0, v1, v2, v3, v4⟩ := V.five
  go_wp2_with fail
  obtain ⟨O, hO⟩ : ∃ O, outW g.s g.l g.c g.sh g.zs d.r3 r.t r.q r.v r.ps r.os d.r5 d.r6 d.r7 d.ps = O := ⟨_, rfl⟩
  refine (written_is g.s g.l g.c g.sh A n cap g.zs d.r3 r.t r.q r.v P p pc Q q qc d.r5 d.r6 d.r7 L m mc r.ps r.os d.ps w0 HM.out HR.out (by have := HL1.out; omega) (by have := HL2.out; omega) H1.out H2.out hmc HP.out).mono ?_
  rintro e w1 hE
  rw [hO] at hE
  obtain ⟨u, v, rfl, hL, hb⟩ := wrR_at hE
  have hon : ontoD g d r = ⟨O.t, O.q, O.v, O.cs, O.os⟩ := by unfold ontoD; rw [if_neg hh2.out, hO]
  have HON := Lib.hid hon
  replace E := bel_trans E hb
  replace X := X.later hb X.lt
  have OL := Lib.hid (oneR hL.at)
  clear hE hO hon g0 g1 g2 g3 g4 v0 v1 v2 v3 v4 d0 d1 d2 d3 d4 d5 d6 d7 d8 D G V
  have hN := hb.size
  clear hb
  generalize w0.heap.size = N at hL hN hXl
  have ZB := Box.new w1 80 #[.int .i64 0, .int .i64 0, .int .i64 0, .slice none 0 0, .slice none 0 0]
  have hn := bel_new_row w1 #[.int .i64 0, .int .i64 0, .int .i64 0, .slice none 0 0, .slice none 0 0] 80 #[.int .i64 O.t, .int .i64 O.q, .int .i64 O.v, u, v]
  have VB := ZB.setRow #[.int .i64 O.t, .int .i64 O.q, .int .i64 O.v, u, v]
  have hV1 := X.lt
  replace hL := (keepsLR _).later hL hn
  replace E := bel_trans E hn
  replace X := X.later hn X.lt
  go_upto_region 4 with (refine wpList_store_row rfl 80 _ _ rfl w1.heap.size _ rfl rfl 80 #[.int .i64 0, .int .i64 0, .int .i64 0, .slice none 0 0, .slice none 0 0] ZB IX.out rfl OL.out.2 ?_)
  clear ZB
  have hz2 := hn.size
  clear hn
  generalize ((w1.alloc _).setRow _ _ : World) = w2 at hL E X VB hz2 ⊢
  generalize w1.heap.size = VV at hL hN hV1 VB hz2 ⊢
  have ht := turns_setRow w2 (w.heap.size + 1 + 1 + 1) #[.int .i64 O.t, .int .i64 O.q, .int .i64 O.v, u, v]
  have B := Lib.hid (X.setRow #[.int .i64 O.t, .int .i64 O.q, .int .i64 O.v, u, v])
  obtain ⟨hL2, hb2⟩ := madeR_put (w3 := w2.setRow (w.heap.size + 1 + 1 + 1) #[.int .i64 O.t, .int .i64 O.q, .int .i64 O.v, u, v]) E (by omega) hXl (by omega) ((keepsLR _).sub hL (fun b hb => ⟨hb.1, by have := hb.2; omega⟩)) rfl
  replace hL2 := Lib.hid hL2
  replace hb2 := Lib.hid hb2
  clear ht hL E
  go_wp2_with (first | (refine wpList_load_box 80 _ rfl VV rfl 80 #[.int .i64 O.t, .int .i64 O.q, .int .i64 O.v, u, v] VB _ Tryz.underlying80 rfl IX.out (by first | rfl | simp [Region.wanted, yielded] | (simp [Region.wanted, yielded, Act.put] <;> omega)) ?_) | (refine wpList_store_row rfl 80 _ _ rfl (w.heap.size + 1 + 1 + 1) _ rfl rfl 80 #[.int .i64 0, .int .i64 0, .int .i64 0, .slice none 0 0, .slice none 0 0] X IX.out rfl OL.out.2 ?_))
  exact bodyPost_ret (v := .agg #[.int .i64 O.t, .int .i64 O.q, .int .i64 O.v, u, v]) (results_row9 (Tryz.results178) _ _ (w.heap.size + 1 + 1 + 1) 80 #[.int .i64 O.t, .int .i64 O.q, .int .i64 O.v, u, v] _ rfl B.out Tryz.underlying80 rfl IX.out) rfl (by rw [HON.out]; exact ⟨u, v, rfl, hL2.out, hb2.out⟩)

end Go.Proofs.YtjdepjpjjgkmbaaGreat
