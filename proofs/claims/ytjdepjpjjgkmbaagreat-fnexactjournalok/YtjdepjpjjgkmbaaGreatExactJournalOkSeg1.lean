/- FnExactJournalOk: at every group and journal the program answers as its model and leaves its argument alone: the law answers true; no condition beyond the given row's own. -/
import Derived.Test.YtjdepjpjjgkmbaaGreatExactJournalOkSeg0
import Derived.Test.YtjdepjpjjgkmbaaGreatRecsBlock
import Derived.Test.YtjdepjpjjgkmbaaGreatConcatRec
import Derived.Test.YtjdepjpjjgkmbaaGreatJourKind
import Derived.Test.YtjdepjpjjgkmbaaGreatRows
import Derived.Test.YtjdepjpjjgkmbaaGreatBase
import Derived.Test.YtjdepjpjjgkmbaaGreatChecked
import Derived.WalkKit
import Derived.ProofKit
import Derived.OpenShut
import Derived.ShutString
import Derived.ChangeOld
import Derived.Below
import Derived.Carry
import Derived.Deep.Fields
import Derived.Laws.Rows
import Derived.Test.YtjdepjpjjgkmbaaGreatCopiesMark
import Derived.Test.YtjdepjpjjgkmbaaGreatStampBase
import Derived.Deep.SlicePairs
import Derived.Test.YtjdepjpjjgkmbaaGreatRegBase

/- The model's l9Apply: a right record is done to its shelf (written by apply_s.py); conditions: the shelves are right, the sizes. -/
namespace Go.Proofs.YtjdepjpjjgkmbaaGreat
open Go Go.RowKit

theorem hreg {P : RegD → World → (Nat → Prop) → Value → Prop} (kp : ∀ d, Keeps (P d)) {w : World} {g lo : Nat} {rs : List RegD} (h : RegsOwn P w g lo rs) {i : Nat} (hi : i < rs.length) :
    ∃ u v, w.cell? ⟨g, i * 5, none⟩ = some (.int .i64 (rs[i]).t) ∧ w.cell? ⟨g, i * 5 + 1, none⟩ = some (.int .i64 (rs[i]).q) ∧ w.cell? ⟨g, i * 5 + 2, none⟩ = some (.int .i64 (rs[i]).v) ∧ w.cell? ⟨g, i * 5 + 3, none⟩ = some u ∧ w.cell? ⟨g, i * 5 + 4, none⟩ = some v ∧
      P rs[i] w (fun b => lo ≤ b) (.agg #[.int .i64 (rs[i]).t, .int .i64 (rs[i]).q, .int .i64 (rs[i]).v, u, v]) := by
  obtain ⟨_, Fs, hR, hF⟩ := h
  obtain ⟨u, v, c0, c1, c2, c3, c4, hP⟩ := hR.get hi
  exact ⟨u, v, c0, c1, c2, c3, c4, (kp _).sub hP (fun b hb => (hF i hi b hb).1)⟩
theorem grownG5 {w w2 : World} (h : Below w.heap.size w w2) (G : Nat) {o0 o1 o2 o3 o4 : Nat} (x0 x1 x2 x3 x4 : Value) : w.grownBy (((((w2.setCell ⟨G, o0, none⟩ x0).setCell ⟨G, o1, none⟩ x1).setCell ⟨G, o2, none⟩ x2).setCell ⟨G, o3, none⟩ x3).setCell ⟨G, o4, none⟩ x4) (some G) := by
  have t5 : Turns (· = G) w2 (((((w2.setCell ⟨G, o0, none⟩ x0).setCell ⟨G, o1, none⟩ x1).setCell ⟨G, o2, none⟩ x2).setCell ⟨G, o3, none⟩ x3).setCell ⟨G, o4, none⟩ x4) :=
    ((((turns_cell5 w2 G _ _).trans (turns_cell5 _ G _ _)).trans (turns_cell5 _ G _ _)).trans (turns_cell5 _ G _ _)).trans (turns_cell5 _ G _ _)
  exact ⟨t5.os.trans h.os, t5.tape.trans h.tape, t5.output.trans h.output, Nat.le_trans h.size t5.size, fun i hi hne => (t5.block i (Nat.lt_of_lt_of_le hi h.size) (fun e => hne (by rw [e]))).trans (h.block i hi)⟩

set_option maxRecDepth 100000 in
set_option maxHeartbeats 16000000 in
theorem l9Apply_is (g : GrpD) (d : RecD) (A : Option Addr) (n cap : Nat) (L : Option Addr) (m mc : Nat) (G k cap' lo : Nat) (rs : List RegD) (i : Nat) (w : World) (hi : d.r3 = (i : Int)) (hil : i < rs.length) (hlen : rs.length = k)
    (hm : n ≤ maxLen) (hgr : Row w w.heap.size A n g.zs) (hmc : m ≤ 4194304) (hp : Pairs w w.heap.size L m d.ps) (hR : RegsOwn AtW w G lo rs)
    (hgood : regG g d.r3 rs[i] = true) (hkn : kndB g.s g.l g.c g.sh g.zs d.r2 d.r3 d.r4 d.r5 d.r6 d.r7 d.ps = true) (hs1 : (rs[i]).ps.length ≤ 2000000) (hs2 : (rs[i]).os.length ≤ 2000000) :
    Calls Tryz.prog 135 #[.agg #[.int .i64 g.s, .int .i64 g.l, .int .i64 g.c, .int .i64 g.sh, .slice A n cap], .slice (some ⟨G, 0, none⟩) k cap', .agg #[.int .i64 d.r1, .int .i64 d.r2, .int .i64 (i : Int), .int .i64 d.r4, .int .i64 d.r5, .int .i64 d.r6, .int .i64 d.r7, .slice L m mc, .int .i64 d.r8]] w fun e w' => (∃ v, e = .returned v) ∧ RegsOwn AtW w' G lo (rs.set i (ontoD g d rs[i])) ∧ w.grownBy w' (some G) := by
  have E := bel_trans (bel_alloc w (.cells #[.int .i64 g.s, .int .i64 g.l, .int .i64 g.c, .int .i64 g.sh, .slice A n cap] 26)) (bel_alloc _ (.cells #[.int .i64 d.r1, .int .i64 d.r2, .int .i64 (i : Int), .int .i64 d.r4, .int .i64 d.r5, .int .i64 d.r6, .int .i64 d.r7, .slice L m mc, .int .i64 d.r8] 46))
  have D := (Box.new w 26 #[.int .i64 g.s, .int .i64 g.l, .int .i64 g.c, .int .i64 g.sh, .slice A n cap]).alloc (.cells #[.int .i64 d.r1, .int .i64 d.r2, .int .i64 (i : Int), .int .i64 d.r4, .int .i64 d.r5, .int .i64 d.r6, .int .i64 d.r7, .slice L m mc, .int .i64 d.r8] 46)
  have R := Box.new (w.alloc (.cells #[.int .i64 g.s, .int .i64 g.l, .int .i64 g.c, .int .i64 g.sh, .slice A n cap] 26)) 46 #[.int .i64 d.r1, .int .i64 d.r2, .int .i64 (i : Int), .int .i64 d.r4, .int .i64 d.r5, .int .i64 d.r6, .int .i64 d.r7, .slice L m mc, .int .i64 d.r8]
  simp only [World.size_alloc] at R
  have HR := Lib.hid ((hgr.below E (Nat.le_refl _)).more E.size)
  have HP := Lib.hid (hp.later E)
  have K := RegsOwn.later keepsW hR E
  have HG := Lib.hid hgood
  have HK := Lib.hid hkn
  have HM := Lib.hid hm
  have HI := Lib.hid hi
  have hGl : G < w.heap.size := by
    obtain ⟨_, Fs, h, _⟩ := hR
    exact h.lt
  clear hgr hp hR hgood hkn hm hi
  have hlt : (i : Int) < (k : Int) := by omega
  obtain ⟨r, hr⟩ : ∃ r : RegD, rs[i] = r := ⟨_, rfl⟩
  rw [hr] at hs1 hs2 ⊢
  replace HG : Hid (regG g d.r3 r = true) := hr ▸ HG
  have hlen' := Lib.hid hlen
  clear hlen
  go_enter Tryz.func135, Tryz.ntmps135
  go_upto_region 1 with fail
  generalize ((w.alloc _).alloc _ : World) = w0 at E D R HR HP K ⊢
  have d1 := R.cell 1
  by_cases h2 : d.r2 = 1
  · skip
    have h2b : (d.r2 == 1) = true := by simpa using h2
    go_upto_region 2 with fail
    clear d1
    obtain ⟨u0, v0, c0, c1, c2, c3, c4, hA⟩ := hreg keepsW K hil
    rw [hr] at c0 c1 c2 hA
    obtain ⟨P, p, pc, Q, q, qc, rfl, rfl, hS1, hS2, hl1, hl2⟩ := hA.slc
    refine wp_region_sink 17 (fun w' => Box w' w.heap.size 26 #[.int .i64 g.s, .int .i64 g.l, .int .i64 g.c, .int .i64 g.sh, .slice A n cap] ∧ Box w' (w.heap.size + 1) 46 #[.int .i64 d.r1, .int .i64 d.r2, .int .i64 (i : Int), .int .i64 d.r4, .int .i64 d.r5, .int .i64 d.r6, .int .i64 d.r7, .slice L m mc, .int .i64 d.r8] ∧ w'.cell? ⟨G, i * 5, none⟩ = some (.int .i64 r.t) ∧ w'.cell? ⟨G, i * 5 + 1, none⟩ = some (.int .i64 r.q) ∧ w'.cell? ⟨G, i * 5 + 2, none⟩ = some (.int .i64 r.v) ∧ w'.cell? ⟨G, i * 5 + 3, none⟩ = some (.slice P p pc) ∧ w'.cell? ⟨G, i * 5 + 4, none⟩ = some (.slice Q q qc)) (by kernel_rfl) ⟨D, R, c0, c1, c2, c3, c4⟩ (fun hH => ?_)
    have hb := (Below.refl w0.heap.size w0).drew
    replace E := bel_trans E hb
    replace D := D.later hb D.lt
    replace R := R.later hb R.lt
    have K1 := RegsOwn.later keepsW K hb
    replace HR := Lib.hid ((HR.out.below hb (Nat.le_refl _)).more hb.size)
    replace HP := Lib.hid (HP.out.later hb)
    replace hS1 := hS1.later hb
    replace hS2 := hS2.later hb
    clear hb hA K
    have K := K1
    clear K1
    generalize w0.drew = w1 at E D R HR HP K hS1 hS2 hH ⊢
    refine wpAnyE_pure (i := 0) (v := ?vp1) (by simp only [List.getElem?_toArray, List.getElem?_cons_zero]; rfl) (by kernel_rfl) (by kernel_rfl) (by kernel_rfl) (by exact fun _ _ _ h => h) (by kernel_rfl) (Or.inl ⟨by rfl, ?yp1⟩) hH ?rp1
    case yp1 => (intro w' hSw; (try dsimp only at hSw); go_simp; try with_reducible rfl)
    try simp only [Act.put, List.setIfInBounds_toArray, List.set_cons_zero, List.set_cons_succ]
    refine wpAnyE_pure (i := 1) (v := ?vp2) (by simp only [List.getElem?_toArray, List.getElem?_cons_succ, List.getElem?_cons_zero]; rfl) (by kernel_rfl) (by kernel_rfl) (by kernel_rfl) (by exact fun _ _ _ h => h) (by kernel_rfl) (Or.inl ⟨by rfl, ?yp2⟩) hH ?rp2
    case yp2 => (intro w' hSw; (try dsimp only at hSw); go_simp; try with_reducible rfl)
    try simp only [Act.put, List.setIfInBounds_toArray, List.set_cons_zero, List.set_cons_succ]
    refine wpAnyE_take (i := 2) (v := .int .i64 (i : Int)) (by simp only [List.getElem?_toArray, List.getElem?_cons_succ, List.getElem?_cons_zero]; rfl) (by kernel_rfl) (by kernel_rfl) (by kernel_rfl) (by exact fun _ _ _ h => h) (by kernel_rfl) (Or.inl ⟨by rfl, ?y3⟩) hH ?r3
    case y3 => (intro w' hSw; have hc2 : w'.cell? ⟨w.heap.size + 1, 2, none⟩ = some (.int .i64 (i : Int)) := hSw.2.1.cell 2; clear hSw; go_simp; try with_reducible rfl)
    try simp only [Act.put, List.setIfInBounds_toArray, List.set_cons_zero, List.set_cons_succ]
    refine wpAnyE_pure (i := 3) (v := ?vp4) (by simp only [List.getElem?_toArray, List.getElem?_cons_succ, List.getElem?_cons_zero]; rfl) (by kernel_rfl) (by kernel_rfl) (by kernel_rfl) (by exact fun _ _ _ h => h) (by kernel_rfl) (Or.inl ⟨by rfl, ?yp4⟩) hH ?rp4
    case yp4 => (intro w' hSw; (try dsimp only at hSw); go_simp; try with_reducible rfl)
    try simp only [Act.put, List.setIfInBounds_toArray, List.set_cons_zero, List.set_cons_succ]
    refine wpAnyE_pure (i := 4) (v := ?vp5) (by simp only [List.getElem?_toArray, List.getElem?_cons_succ, List.getElem?_cons_zero]; rfl) (by kernel_rfl) (by kernel_rfl) (by kernel_rfl) (by exact fun _ _ _ h => h) (by kernel_rfl) (Or.inl ⟨by rfl, ?yp5⟩) hH ?rp5
    case yp5 => (intro w' hSw; (try dsimp only at hSw); go_simp; try with_reducible rfl)
    try simp only [Act.put, List.setIfInBounds_toArray, List.set_cons_zero, List.set_cons_succ]
    refine wpAnyE_take (i := 5) (v := .int .i64 (i : Int)) (by simp only [List.getElem?_toArray, List.getElem?_cons_succ, List.getElem?_cons_zero]; rfl) (by kernel_rfl) (by kernel_rfl) (by kernel_rfl) (by exact fun _ _ _ h => h) (by kernel_rfl) (Or.inl ⟨by rfl, ?y6⟩) hH ?r6
    case y6 => (intro w' hSw; have hc2 : w'.cell? ⟨w.heap.size + 1, 2, none⟩ = some (.int .i64 (i : Int)) := hSw.2.1.cell 2; clear hSw; go_simp; try with_reducible rfl)
    try simp only [Act.put, List.setIfInBounds_toArray, List.set_cons_zero, List.set_cons_succ]
    refine wpAnyE_pure (i := 6) (v := ?vp7) (by simp only [List.getElem?_toArray, List.getElem?_cons_succ, List.getElem?_cons_zero]; rfl) (by kernel_rfl) (by kernel_rfl) (by kernel_rfl) (by exact fun _ _ _ h => h) (by kernel_rfl) (Or.inl ⟨by rfl, ?yp7⟩) hH ?rp7
    case yp7 => (intro w' hSw; (try dsimp only at hSw); go_simp; try with_reducible rfl)
    try simp only [Act.put, List.setIfInBounds_toArray, List.set_cons_zero, List.set_cons_succ]
    refine wpAnyE_take (i := 7) (v := .agg #[.int .i64 r.t, .int .i64 r.q, .int .i64 r.v, .slice P p pc, .slice Q q qc]) (by simp only [List.getElem?_toArray, List.getElem?_cons_succ, List.getElem?_cons_zero]; rfl) (by kernel_rfl) (by kernel_rfl) (by kernel_rfl) (by exact fun _ _ _ h => h) (by kernel_rfl) (Or.inl ⟨by rfl, ?y8⟩) hH ?r8
    case y8 => (intro w' hSw; have hr0 : w'.cell? ⟨G, i * 5, none⟩ = some (.int .i64 r.t) := hSw.2.2.1; have hr1 : w'.cell? ⟨G, i * 5 + 1, none⟩ = some (.int .i64 r.q) := hSw.2.2.2.1; have hr2 : w'.cell? ⟨G, i * 5 + 2, none⟩ = some (.int .i64 r.v) := hSw.2.2.2.2.1; have hr3 : w'.cell? ⟨G, i * 5 + 3, none⟩ = some (.slice P p pc) := hSw.2.2.2.2.2.1; have hr4 : w'.cell? ⟨G, i * 5 + 4, none⟩ = some (.slice Q q qc) := hSw.2.2.2.2.2.2; clear hSw; go_simp; try with_reducible rfl)
    try simp only [Act.put, List.setIfInBounds_toArray, List.set_cons_zero, List.set_cons_succ]
    refine wpAnyE_pure (i := 8) (v := ?vp9) (by simp only [List.getElem?_toArray, List.getElem?_cons_succ, List.getElem?_cons_zero]; rfl) (by kernel_rfl) (by kernel_rfl) (by kernel_rfl) (by exact fun _ _ _ h => h) (by kernel_rfl) (Or.inl ⟨by rfl, ?yp9⟩) hH ?rp9
    case yp9 => (intro w' hSw; (try dsimp only at hSw); go_simp; try with_reducible rfl)
    try simp only [Act.put, List.setIfInBounds_toArray, List.set_cons_zero, List.set_cons_succ]
    refine wpAnyE_take (i := 9) (v := .int .i64 d.r4) (by simp only [List.getElem?_toArray, List.getElem?_cons_succ, List.getElem?_cons_zero]; rfl) (by kernel_rfl) (by kernel_rfl) (by kernel_rfl) (by exact fun _ _ _ h => h) (by kernel_rfl) (Or.inl ⟨by rfl, ?y10⟩) hH ?r10
    case y10 => (intro w' hSw; have hc3 : w'.cell? ⟨w.heap.size + 1, 3, none⟩ = some (.int .i64 d.r4) := hSw.2.1.cell 3; clear hSw; go_simp; try with_reducible rfl)
    try simp only [Act.put, List.setIfInBounds_toArray, List.set_cons_zero, List.set_cons_succ]
    refine wpAnyE_pure (i := 10) (v := ?vp11) (by simp only [List.getElem?_toArray, List.getElem?_cons_succ, List.getElem?_cons_zero]; rfl) (by kernel_rfl) (by kernel_rfl) (by kernel_rfl) (by exact fun _ _ _ h => h) (by kernel_rfl) (Or.inl ⟨by rfl, ?yp11⟩) hH ?rp11
    case yp11 => (intro w' hSw; (try dsimp only at hSw); go_simp; try with_reducible rfl)
    try simp only [Act.put, List.setIfInBounds_toArray, List.set_cons_zero, List.set_cons_succ]
    refine wpAnyE_take (i := 11) (v := .agg #[.int .i64 d.r5, .int .i64 d.r6]) (by simp only [List.getElem?_toArray, List.getElem?_cons_succ, List.getElem?_cons_zero]; rfl) (by kernel_rfl) (by kernel_rfl) (by kernel_rfl) (by exact fun _ _ _ h => h) (by kernel_rfl) (Or.inl ⟨by rfl, ?y12⟩) hH ?r12
    case y12 => (intro w' hSw; have hc4 : w'.cell? ⟨w.heap.size + 1, 4, none⟩ = some (.int .i64 d.r5) := hSw.2.1.cell 4; have hc5 : w'.cell? ⟨w.heap.size + 1, 5, none⟩ = some (.int .i64 d.r6) := hSw.2.1.cell 5; clear hSw; go_simp; try with_reducible rfl)
    try simp only [Act.put, List.setIfInBounds_toArray, List.set_cons_zero, List.set_cons_succ]
    refine wpAnyE_pure (i := 12) (v := ?vp13) (by simp only [List.getElem?_toArray, List.getElem?_cons_succ, List.getElem?_cons_zero]; rfl) (by kernel_rfl) (by kernel_rfl) (by kernel_rfl) (by exact fun _ _ _ h => h) (by kernel_rfl) (Or.inl ⟨by rfl, ?yp13⟩) hH ?rp13
    case yp13 => (intro w' hSw; (try dsimp only at hSw); go_simp; try with_reducible rfl)
    try simp only [Act.put, List.setIfInBounds_toArray, List.set_cons_zero, List.set_cons_succ]
    refine wpAnyE_take (i := 13) (v := .int .i64 d.r7) (by simp only [List.getElem?_toArray, List.getElem?_cons_succ, List.getElem?_cons_zero]; rfl) (by kernel_rfl) (by kernel_rfl) (by kernel_rfl) (by exact fun _ _ _ h => h) (by kernel_rfl) (Or.inl ⟨by rfl, ?y14⟩) hH ?r14
    case y14 => (intro w' hSw; have hc6 : w'.cell? ⟨w.heap.size + 1, 6, none⟩ = some (.int .i64 d.r7) := hSw.2.1.cell 6; clear hSw; go_simp; try with_reducible rfl)
    try simp only [Act.put, List.setIfInBounds_toArray, List.set_cons_zero, List.set_cons_succ]
    refine wpAnyE_pure (i := 14) (v := ?vp15) (by simp only [List.getElem?_toArray, List.getElem?_cons_succ, List.getElem?_cons_zero]; rfl) (by kernel_rfl) (by kernel_rfl) (by kernel_rfl) (by exact fun _ _ _ h => h) (by kernel_rfl) (Or.inl ⟨by rfl, ?yp15⟩) hH ?rp15
    case yp15 => (intro w' hSw; (try dsimp only at hSw); go_simp; try with_reducible rfl)
    try simp only [Act.put, List.setIfInBounds_toArray, List.set_cons_zero, List.set_cons_succ]
    refine wpAnyE_one (i := 15) (by kernel_rfl) (by simp only [List.getElem?_toArray, List.getElem?_cons_succ, List.getElem?_cons_zero]; rfl) (fun K' hK => ?_)
    go_simp
    refine (specWith_is r.t r.q r.v P p pc Q q qc d.r4 d.r5 d.r6 d.r7 r.ps r.os w1 hs1 hs2 hS1 hS2).mono ?_
    rintro e w2 hE
    obtain ⟨u, v, rfl, hL, hb⟩ := regR_at hE
    have hon : ontoD g d r = ⟨r.t, r.q, r.v, r.ps, withO r.os (d.r4, d.r5, d.r6, d.r7)⟩ := by unfold ontoD; rw [if_pos h2]
    replace hL := hL.atW
    obtain ⟨A1, n1, c1', A2, n2', c2', rfl, rfl, -, -, -, -⟩ := hL.slc
    have hcG : ∀ o x, w1.cell? ⟨G, o, none⟩ = some x → w2.cell? ⟨G, o, none⟩ = some x := fun o x h => (hb.cell (p := ⟨G, o, none⟩) (Nat.lt_of_lt_of_le hGl E.size)).trans h
    obtain ⟨D1, R1, q0, q1, q2, q3, q4⟩ := hH
    have n0 := hcG _ _ q0
    have n1 := hcG _ _ q1
    have n2 := hcG _ _ q2
    have n3 := hcG _ _ q3
    have n4 := hcG _ _ q4
    have D2 := D.later hb D.lt
    have R2 := R.later hb R.lt
    have Kf := Lib.hid (RegsOwn.put keepsW K hb hil hL)
    have E2 := Lib.hid (bel_trans E hb)
    have fG : ∀ o, w2.frozen? ⟨G, o, none⟩ = false := by
      obtain ⟨_, Fs, h, _⟩ := RegsOwn.later keepsW K hb
      exact h.frozen
    refine hK.out _ _ ⟨D2, R2, n0, n1, n2, n3, n4⟩ (fun hH => ?_)
    clear hK K' K hb hE hcG q0 q1 q2 q3 q4 D1 R1 hL
    try simp only [Act.put, List.setIfInBounds_toArray, List.set_cons_zero, List.set_cons_succ]
    refine wpAnyE_pure (i := 16) (v := ?vp16) (by simp only [List.getElem?_toArray, List.getElem?_cons_succ, List.getElem?_cons_zero]; rfl) (by kernel_rfl) (by kernel_rfl) (by kernel_rfl) (by exact fun _ _ _ h => h) (by kernel_rfl) (Or.inl ⟨by rfl, ?yp16⟩) hH ?rp16
    case yp16 => (intro w' hSw; (try dsimp only at hSw); go_simp; try with_reducible rfl)
    try simp only [Act.put, List.setIfInBounds_toArray, List.set_cons_zero, List.set_cons_succ]
    refine wpAnyE_last (by kernel_rfl) (by simp only [List.getElem?_toArray, List.getElem?_cons_succ, List.getElem?_cons_zero]; rfl) (by kernel_rfl) (fun K' hK => ?_)
    go_simp
    refine hK.out _ _ ?_
    clear hK K' hH
    try simp only [Act.put, List.setIfInBounds_toArray, List.set_cons_zero, List.set_cons_succ]
    clear n0 n1 n2 n3 n4 fG D2 R2
    go_wp2
    refine bodyPost_ret (results_none rfl _ _ _) rfl ?_
    refine ⟨⟨_, rfl⟩, hon ▸ Kf.out, grownG5 E2.out G _ _ _ _ _⟩
  · skip
    have h2b : (d.r2 == 1) = false := by simpa using h2
    go_upto_region 3 with fail
    clear d1
    obtain ⟨u0, v0, c0, c1, c2, c3, c4, hA⟩ := hreg keepsW K hil
    rw [hr] at c0 c1 c2 hA
    obtain ⟨P, p, pc, Q, q, qc, rfl, rfl, hS1, hS2, hl1, hl2⟩ := hA.slc
    refine wp_region_sink 22 (fun w' => Box w' w.heap.size 26 #[.int .i64 g.s, .int .i64 g.l, .int .i64 g.c, .int .i64 g.sh, .slice A n cap] ∧ Box w' (w.heap.size + 1) 46 #[.int .i64 d.r1, .int .i64 d.r2, .int .i64 (i : Int), .int .i64 d.r4, .int .i64 d.r5, .int .i64 d.r6, .int .i64 d.r7, .slice L m mc, .int .i64 d.r8] ∧ w'.cell? ⟨G, i * 5, none⟩ = some (.int .i64 r.t) ∧ w'.cell? ⟨G, i * 5 + 1, none⟩ = some (.int .i64 r.q) ∧ w'.cell? ⟨G, i * 5 + 2, none⟩ = some (.int .i64 r.v) ∧ w'.cell? ⟨G, i * 5 + 3, none⟩ = some (.slice P p pc) ∧ w'.cell? ⟨G, i * 5 + 4, none⟩ = some (.slice Q q qc)) (by kernel_rfl) ⟨D, R, c0, c1, c2, c3, c4⟩ (fun hH => ?_)
    have hb := (Below.refl w0.heap.size w0).drew
    replace E := bel_trans E hb
    replace D := D.later hb D.lt
    replace R := R.later hb R.lt
    have K1 := RegsOwn.later keepsW K hb
    replace HR := Lib.hid ((HR.out.below hb (Nat.le_refl _)).more hb.size)
    replace HP := Lib.hid (HP.out.later hb)
    replace hS1 := hS1.later hb
    replace hS2 := hS2.later hb
    clear hb hA K
    have K := K1
    clear K1
    generalize w0.drew = w1 at E D R HR HP K hS1 hS2 hH ⊢
    refine wpAnyE_pure (i := 0) (v := ?vp17) (by simp only [List.getElem?_toArray, List.getElem?_cons_zero]; rfl) (by kernel_rfl) (by kernel_rfl) (by kernel_rfl) (by exact fun _ _ _ h => h) (by kernel_rfl) (Or.inl ⟨by rfl, ?yp17⟩) hH ?rp17
    case yp17 => (intro w' hSw; (try dsimp only at hSw); go_simp; try with_reducible rfl)
    try simp only [Act.put, List.setIfInBounds_toArray, List.set_cons_zero, List.set_cons_succ]
    refine wpAnyE_pure (i := 1) (v := ?vp18) (by simp only [List.getElem?_toArray, List.getElem?_cons_succ, List.getElem?_cons_zero]; rfl) (by kernel_rfl) (by kernel_rfl) (by kernel_rfl) (by exact fun _ _ _ h => h) (by kernel_rfl) (Or.inl ⟨by rfl, ?yp18⟩) hH ?rp18
    case yp18 => (intro w' hSw; (try dsimp only at hSw); go_simp; try with_reducible rfl)
    try simp only [Act.put, List.setIfInBounds_toArray, List.set_cons_zero, List.set_cons_succ]
    refine wpAnyE_take (i := 2) (v := .int .i64 (i : Int)) (by simp only [List.getElem?_toArray, List.getElem?_cons_succ, List.getElem?_cons_zero]; rfl) (by kernel_rfl) (by kernel_rfl) (by kernel_rfl) (by exact fun _ _ _ h => h) (by kernel_rfl) (Or.inl ⟨by rfl, ?y19⟩) hH ?r19
    case y19 => (intro w' hSw; have hc2 : w'.cell? ⟨w.heap.size + 1, 2, none⟩ = some (.int .i64 (i : Int)) := hSw.2.1.cell 2; clear hSw; go_simp; try with_reducible rfl)
    try simp only [Act.put, List.setIfInBounds_toArray, List.set_cons_zero, List.set_cons_succ]
    refine wpAnyE_take (i := 3) (v := .agg #[.int .i64 g.s, .int .i64 g.l, .int .i64 g.c, .int .i64 g.sh, .slice A n cap]) (by simp only [List.getElem?_toArray, List.getElem?_cons_succ, List.getElem?_cons_zero]; rfl) (by kernel_rfl) (by kernel_rfl) (by kernel_rfl) (by exact fun _ _ _ h => h) (by kernel_rfl) (Or.inl ⟨by rfl, ?y20⟩) hH ?r20
    case y20 => (intro w' hSw; have hg0 : w'.cell? ⟨w.heap.size, 0, none⟩ = some (.int .i64 g.s) := hSw.1.cell 0; have hg1 : w'.cell? ⟨w.heap.size, 1, none⟩ = some (.int .i64 g.l) := hSw.1.cell 1; have hg2 : w'.cell? ⟨w.heap.size, 2, none⟩ = some (.int .i64 g.c) := hSw.1.cell 2; have hg3 : w'.cell? ⟨w.heap.size, 3, none⟩ = some (.int .i64 g.sh) := hSw.1.cell 3; have hg4 : w'.cell? ⟨w.heap.size, 4, none⟩ = some (.slice A n cap) := hSw.1.cell 4; clear hSw; go_simp; try with_reducible rfl)
    try simp only [Act.put, List.setIfInBounds_toArray, List.set_cons_zero, List.set_cons_succ]
    refine wpAnyE_pure (i := 4) (v := ?vp21) (by simp only [List.getElem?_toArray, List.getElem?_cons_succ, List.getElem?_cons_zero]; rfl) (by kernel_rfl) (by kernel_rfl) (by kernel_rfl) (by exact fun _ _ _ h => h) (by kernel_rfl) (Or.inl ⟨by rfl, ?yp21⟩) hH ?rp21
    case yp21 => (intro w' hSw; (try dsimp only at hSw); go_simp; try with_reducible rfl)
    try simp only [Act.put, List.setIfInBounds_toArray, List.set_cons_zero, List.set_cons_succ]
    refine wpAnyE_take (i := 5) (v := .int .i64 (i : Int)) (by simp only [List.getElem?_toArray, List.getElem?_cons_succ, List.getElem?_cons_zero]; rfl) (by kernel_rfl) (by kernel_rfl) (by kernel_rfl) (by exact fun _ _ _ h => h) (by kernel_rfl) (Or.inl ⟨by rfl, ?y22⟩) hH ?r22
    case y22 => (intro w' hSw; have hc2 : w'.cell? ⟨w.heap.size + 1, 2, none⟩ = some (.int .i64 (i : Int)) := hSw.2.1.cell 2; clear hSw; go_simp; try with_reducible rfl)
    try simp only [Act.put, List.setIfInBounds_toArray, List.set_cons_zero, List.set_cons_succ]
    refine wpAnyE_pure (i := 6) (v := ?vp23) (by simp only [List.getElem?_toArray, List.getElem?_cons_succ, List.getElem?_cons_zero]; rfl) (by kernel_rfl) (by kernel_rfl) (by kernel_rfl) (by exact fun _ _ _ h => h) (by kernel_rfl) (Or.inl ⟨by rfl, ?yp23⟩) hH ?rp23
    case yp23 => (intro w' hSw; (try dsimp only at hSw); go_simp; try with_reducible rfl)
    try simp only [Act.put, List.setIfInBounds_toArray, List.set_cons_zero, List.set_cons_succ]
    refine wpAnyE_pure (i := 7) (v := ?vp24) (by simp only [List.getElem?_toArray, List.getElem?_cons_succ, List.getElem?_cons_zero]; rfl) (by kernel_rfl) (by kernel_rfl) (by kernel_rfl) (by exact fun _ _ _ h => h) (by kernel_rfl) (Or.inl ⟨by rfl, ?yp24⟩) hH ?rp24
    case yp24 => (intro w' hSw; (try dsimp only at hSw); go_simp; try with_reducible rfl)
    try simp only [Act.put, List.setIfInBounds_toArray, List.set_cons_zero, List.set_cons_succ]
    refine wpAnyE_take (i := 8) (v := .int .i64 (i : Int)) (by simp only [List.getElem?_toArray, List.getElem?_cons_succ, List.getElem?_cons_zero]; rfl) (by kernel_rfl) (by kernel_rfl) (by kernel_rfl) (by exact fun _ _ _ h => h) (by kernel_rfl) (Or.inl ⟨by rfl, ?y25⟩) hH ?r25
    case y25 => (intro w' hSw; have hc2 : w'.cell? ⟨w.heap.size + 1, 2, none⟩ = some (.int .i64 (i : Int)) := hSw.2.1.cell 2; clear hSw; go_simp; try with_reducible rfl)
    try simp only [Act.put, List.setIfInBounds_toArray, List.set_cons_zero, List.set_cons_succ]
    refine wpAnyE_pure (i := 9) (v := ?vp26) (by simp only [List.getElem?_toArray, List.getElem?_cons_succ, List.getElem?_cons_zero]; rfl) (by kernel_rfl) (by kernel_rfl) (by kernel_rfl) (by exact fun _ _ _ h => h) (by kernel_rfl) (Or.inl ⟨by rfl, ?yp26⟩) hH ?rp26
    case yp26 => (intro w' hSw; (try dsimp only at hSw); go_simp; try with_reducible rfl)
    try simp only [Act.put, List.setIfInBounds_toArray, List.set_cons_zero, List.set_cons_succ]
    refine wpAnyE_take (i := 10) (v := .agg #[.int .i64 r.t, .int .i64 r.q, .int .i64 r.v, .slice P p pc, .slice Q q qc]) (by simp only [List.getElem?_toArray, List.getElem?_cons_succ, List.getElem?_cons_zero]; rfl) (by kernel_rfl) (by kernel_rfl) (by kernel_rfl) (by exact fun _ _ _ h => h) (by kernel_rfl) (Or.inl ⟨by rfl, ?y27⟩) hH ?r27
    case y27 => (intro w' hSw; have hr0 : w'.cell? ⟨G, i * 5, none⟩ = some (.int .i64 r.t) := hSw.2.2.1; have hr1 : w'.cell? ⟨G, i * 5 + 1, none⟩ = some (.int .i64 r.q) := hSw.2.2.2.1; have hr2 : w'.cell? ⟨G, i * 5 + 2, none⟩ = some (.int .i64 r.v) := hSw.2.2.2.2.1; have hr3 : w'.cell? ⟨G, i * 5 + 3, none⟩ = some (.slice P p pc) := hSw.2.2.2.2.2.1; have hr4 : w'.cell? ⟨G, i * 5 + 4, none⟩ = some (.slice Q q qc) := hSw.2.2.2.2.2.2; clear hSw; go_simp; try with_reducible rfl)
    try simp only [Act.put, List.setIfInBounds_toArray, List.set_cons_zero, List.set_cons_succ]
    refine wpAnyE_pure (i := 11) (v := ?vp28) (by simp only [List.getElem?_toArray, List.getElem?_cons_succ, List.getElem?_cons_zero]; rfl) (by kernel_rfl) (by kernel_rfl) (by kernel_rfl) (by exact fun _ _ _ h => h) (by kernel_rfl) (Or.inl ⟨by rfl, ?yp28⟩) hH ?rp28
    case yp28 => (intro w' hSw; (try dsimp only at hSw); go_simp; try with_reducible rfl)
    try simp only [Act.put, List.setIfInBounds_toArray, List.set_cons_zero, List.set_cons_succ]
    refine wpAnyE_take (i := 12) (v := .agg #[.int .i64 d.r5, .int .i64 d.r6]) (by simp only [List.getElem?_toArray, List.getElem?_cons_succ, List.getElem?_cons_zero]; rfl) (by kernel_rfl) (by kernel_rfl) (by kernel_rfl) (by exact fun _ _ _ h => h) (by kernel_rfl) (Or.inl ⟨by rfl, ?y29⟩) hH ?r29
    case y29 => (intro w' hSw; have hc4 : w'.cell? ⟨w.heap.size + 1, 4, none⟩ = some (.int .i64 d.r5) := hSw.2.1.cell 4; have hc5 : w'.cell? ⟨w.heap.size + 1, 5, none⟩ = some (.int .i64 d.r6) := hSw.2.1.cell 5; clear hSw; go_simp; try with_reducible rfl)
    try simp only [Act.put, List.setIfInBounds_toArray, List.set_cons_zero, List.set_cons_succ]
    refine wpAnyE_pure (i := 13) (v := ?vp30) (by simp only [List.getElem?_toArray, List.getElem?_cons_succ, List.getElem?_cons_zero]; rfl) (by kernel_rfl) (by kernel_rfl) (by kernel_rfl) (by exact fun _ _ _ h => h) (by kernel_rfl) (Or.inl ⟨by rfl, ?yp30⟩) hH ?rp30
    case yp30 => (intro w' hSw; (try dsimp only at hSw); go_simp; try with_reducible rfl)
    try simp only [Act.put, List.setIfInBounds_toArray, List.set_cons_zero, List.set_cons_succ]
    refine wpAnyE_take (i := 14) (v := .int .i64 d.r7) (by simp only [List.getElem?_toArray, List.getElem?_cons_succ, List.getElem?_cons_zero]; rfl) (by kernel_rfl) (by kernel_rfl) (by kernel_rfl) (by exact fun _ _ _ h => h) (by kernel_rfl) (Or.inl ⟨by rfl, ?y31⟩) hH ?r31
    case y31 => (intro w' hSw; have hc6 : w'.cell? ⟨w.heap.size + 1, 6, none⟩ = some (.int .i64 d.r7) := hSw.2.1.cell 6; clear hSw; go_simp; try with_reducible rfl)
    try simp only [Act.put, List.setIfInBounds_toArray, List.set_cons_zero, List.set_cons_succ]
    refine wpAnyE_pure (i := 15) (v := ?vp32) (by simp only [List.getElem?_toArray, List.getElem?_cons_succ, List.getElem?_cons_zero]; rfl) (by kernel_rfl) (by kernel_rfl) (by kernel_rfl) (by exact fun _ _ _ h => h) (by kernel_rfl) (Or.inl ⟨by rfl, ?yp32⟩) hH ?rp32
    case yp32 => (intro w' hSw; (try dsimp only at hSw); go_simp; try with_reducible rfl)
    try simp only [Act.put, List.setIfInBounds_toArray, List.set_cons_zero, List.set_cons_succ]
    refine wpAnyE_take (i := 16) (v := .slice L m mc) (by simp only [List.getElem?_toArray, List.getElem?_cons_succ, List.getElem?_cons_zero]; rfl) (by kernel_rfl) (by kernel_rfl) (by kernel_rfl) (by exact fun _ _ _ h => h) (by kernel_rfl) (Or.inl ⟨by rfl, ?y33⟩) hH ?r33
    case y33 => (intro w' hSw; have hc7 : w'.cell? ⟨w.heap.size + 1, 7, none⟩ = some (.slice L m mc) := hSw.2.1.cell 7; clear hSw; go_simp; try with_reducible rfl)
    try simp only [Act.put, List.setIfInBounds_toArray, List.set_cons_zero, List.set_cons_succ]
    refine wpAnyE_one (i := 17) (by kernel_rfl) (by simp only [List.getElem?_toArray, List.getElem?_cons_succ, List.getElem?_cons_zero]; rfl) (fun K' hK => ?_)
    go_simp
    have hw : wrtB g.s g.l g.c g.sh g.zs (i : Int) d.r5 d.r6 d.r7 d.ps = true := by
      rcases knd_parts HK.out with ⟨h, -⟩ | ⟨-, -, hz, hl⟩
      · exact absurd h h2
      · rw [← HI.out]; exact lef_wrt hl hz
    refine (l7WriteV_yes g.s g.l g.c g.sh A n cap g.zs (i : Int) r.t r.q r.v P p pc Q q qc d.r5 d.r6 d.r7 L m mc r.ps r.os d.ps w1 HM.out HR.out hs1 hs2 hS1 hS2 hmc HP.out hw).mono ?_
    rintro e w2 hE
    rw [← HI.out] at hE
    obtain ⟨u, v, rfl, hL, hb⟩ := wroteV_at HG.out HK.out h2 hE
    obtain ⟨o, ho⟩ : ∃ o : RegD, ontoD g d r = o := ⟨_, rfl⟩
    rw [ho] at hL ⊢
    obtain ⟨A1, n1, c1', A2, n2', c2', rfl, rfl, -, -, -, -⟩ := hL.slc
    have hcG : ∀ o x, w1.cell? ⟨G, o, none⟩ = some x → w2.cell? ⟨G, o, none⟩ = some x := fun o x h => (hb.cell (p := ⟨G, o, none⟩) (Nat.lt_of_lt_of_le hGl E.size)).trans h
    obtain ⟨D1, R1, q0, q1, q2, q3, q4⟩ := hH
    have n0 := hcG _ _ q0
    have n1 := hcG _ _ q1
    have n2 := hcG _ _ q2
    have n3 := hcG _ _ q3
    have n4 := hcG _ _ q4
    have D2 := D.later hb D.lt
    have R2 := R.later hb R.lt
    have Kf := Lib.hid (RegsOwn.put keepsW K hb hil hL)
    have E2 := Lib.hid (bel_trans E hb)
    have fG : ∀ o, w2.frozen? ⟨G, o, none⟩ = false := by
      obtain ⟨_, Fs, h, _⟩ := RegsOwn.later keepsW K hb
      exact h.frozen
    refine hK.out _ _ ⟨D2, R2, n0, n1, n2, n3, n4⟩ (fun hH => ?_)
    clear hK K' K hb hE hcG q0 q1 q2 q3 q4 D1 R1 hL hw
    try simp only [Act.put, List.setIfInBounds_toArray, List.set_cons_zero, List.set_cons_succ]
    refine wpAnyE_pure (i := 18) (v := ?vp34) (by simp only [List.getElem?_toArray, List.getElem?_cons_succ, List.getElem?_cons_zero]; rfl) (by kernel_rfl) (by kernel_rfl) (by kernel_rfl) (by exact fun _ _ _ h => h) (by kernel_rfl) (Or.inl ⟨by rfl, ?yp34⟩) hH ?rp34
    case yp34 => (intro w' hSw; (try dsimp only at hSw); go_simp; try with_reducible rfl)
    try simp only [Act.put, List.setIfInBounds_toArray, List.set_cons_zero, List.set_cons_succ]
    refine wpAnyE_pure (i := 19) (v := ?vp35) (by simp only [List.getElem?_toArray, List.getElem?_cons_succ, List.getElem?_cons_zero]; rfl) (by kernel_rfl) (by kernel_rfl) (by kernel_rfl) (by exact fun _ _ _ h => h) (by kernel_rfl) (Or.inl ⟨by rfl, ?yp35⟩) hH ?rp35
    case yp35 => (intro w' hSw; (try dsimp only at hSw); go_simp; try with_reducible rfl)
    try simp only [Act.put, List.setIfInBounds_toArray, List.set_cons_zero, List.set_cons_succ]
    refine wpAnyE_pure (i := 20) (v := ?vp36) (by simp only [List.getElem?_toArray, List.getElem?_cons_succ, List.getElem?_cons_zero]; rfl) (by kernel_rfl) (by kernel_rfl) (by kernel_rfl) (by exact fun _ _ _ h => h) (by kernel_rfl) (Or.inl ⟨by rfl, ?yp36⟩) hH ?rp36
    case yp36 => (intro w' hSw; (try dsimp only at hSw); go_simp; try with_reducible rfl)
    try simp only [Act.put, List.setIfInBounds_toArray, List.set_cons_zero, List.set_cons_succ]
    refine wpAnyE_pure (i := 21) (v := ?vp37) (by simp only [List.getElem?_toArray, List.getElem?_cons_succ, List.getElem?_cons_zero]; rfl) (by kernel_rfl) (by kernel_rfl) (by kernel_rfl) (by exact fun _ _ _ h => h) (by kernel_rfl) (Or.inl ⟨by rfl, ?yp37⟩) hH ?rp37
    case yp37 => (intro w' hSw; (try dsimp only at hSw); go_simp; try with_reducible rfl)
    try simp only [Act.put, List.setIfInBounds_toArray, List.set_cons_zero, List.set_cons_succ]
    refine wpAnyE_last (by kernel_rfl) (by simp only [List.getElem?_toArray, List.getElem?_cons_succ, List.getElem?_cons_zero]; rfl) (by kernel_rfl) (fun K' hK => ?_)
    go_simp
    refine hK.out _ _ ?_
    clear hK K' hH
    try simp only [Act.put, List.setIfInBounds_toArray, List.set_cons_zero, List.set_cons_succ]
    clear n0 n1 n2 n3 n4 fG D2 R2
    go_wp2
    go_end0
    refine ⟨⟨_, rfl⟩, (by rw [ho]; exact Kf.out), grownG5 E2.out G _ _ _ _ _⟩

end Go.Proofs.YtjdepjpjjgkmbaaGreat

/- The model's Replayed: what was done to each shelf, one record after the other (written by rep_s.py); conditions: the sizes. -/
namespace Go.Proofs.YtjdepjpjjgkmbaaGreat
open Go Go.RowKit

theorem Tryz.infoReg9 : (Tryz.prog.info? 80).map (fun i => (i.zero, i.size, i.bytes)) = some (some (.agg #[.int .i64 0, .int .i64 0, .int .i64 0, .slice none 0 0, .slice none 0 0]), 5, 72) := by kernel_rfl
theorem run_make_regs {P : Program} (t e : TypeId) (ht : P.underlying t = some (.slice e)) (hinfo : (P.info? e).map (fun i => (i.zero, i.size, i.bytes)) = some (some (.agg #[.int .i64 0, .int .i64 0, .int .i64 0, .slice none 0 0, .slice none 0 0]), 5, 72))
    (n : Nat) (hn : n ≤ 1048576) (w : World) :
    (Instr.makeSlice t (.int .i64 (n : Int)) (.int .i64 (n : Int))).run P w = .ok (.slice (some ⟨w.heap.size, 0, none⟩) n n) (w.alloc (.cells (madeCells #[.int .i64 0, .int .i64 0, .int .i64 0, .slice none 0 0, .slice none 0 0] (n * 5)) e)) := by
  obtain ⟨i, hi, hzz⟩ := Option.map_eq_some_iff.1 hinfo
  simp only [Prod.mk.injEq] at hzz
  obtain ⟨hz, hs, hb⟩ := hzz
  have hr := run_make (P := P) w t e i _ ht hi hz .i64 .i64 n n (by omega) (Int.le_refl _) (by rw [hb]; omega) (by omega)
  simp only [Int.toNat_natCast, hs] at hr
  exact hr
/-- No shelves at all. -/
theorem regs_none (P : RegD → World → (Nat → Prop) → Value → Prop) (w : World) : RegsOwn P (w.alloc (.cells #[] 80)) w.heap.size w.heap.size [] :=
  ⟨Nat.le_refl _, fun _ _ => False, ⟨⟨#[], Box.new w _ _, rfl, fun i hi => absurd hi (by simp)⟩, fun _ _ _ h => h.elim, fun _ _ _ _ _ _ h => h.elim⟩, fun _ _ _ h => h.elim⟩
/-- What Replayed leaves: shelves of one's own, and a flag. -/
def MadeReps (P : RegD → World → (Nat → Prop) → Value → Prop) (rs : List RegD) (f : Bool) (w : World) (e : Ending) (w' : World) : Prop :=
  ∃ G c, e = .returned (.tuple #[.slice (some ⟨G, 0, none⟩) rs.length c, .bool f]) ∧ RegsOwn P w' G w.heap.size rs ∧ Below w.heap.size w w'
theorem RegsOwn.low {P : RegD → World → (Nat → Prop) → Value → Prop} {w : World} {g lo lo' : Nat} {rs : List RegD} (h : RegsOwn P w g lo rs) (hl : lo' ≤ lo) : RegsOwn P w g lo' rs := by
  obtain ⟨hg, Fs, hR, hF⟩ := h
  exact ⟨by omega, Fs, hR, fun i hi b hb => ⟨by have := (hF i hi b hb).1; omega, (hF i hi b hb).2⟩⟩
theorem regOf_lt {rs : List RegD} {i : Nat} (h : i < rs.length) : regOf rs i = rs[i] := by
  unfold regOf
  rw [List.getD_eq_getElem?_getD, List.getElem?_eq_getElem h]
  rfl

theorem RowF.later {w w' : World} {F : Nat → Prop} {A : Option Addr} {n : Nat} {zs : List Int} (h : RowF w F A n zs) (hb : Below w.heap.size w w') : RowF w' F A n zs := h.turn (T := fun _ => False) (Turns.of_below hb) (fun _ _ h => h)
set_option maxRecDepth 100000 in
set_option maxHeartbeats 16000000 in
theorem specReplayed_is (g : GrpD) (ds : List RecD) (A : Option Addr) (n cap : Nat) (LA : Option Addr) (ln lc : Nat) (w : World) (hm : n ≤ maxLen) (hgr : Row w w.heap.size A n g.zs) (hds : RecsF ds w (· < w.heap.size) LA ln) (htot : totC ds ≤ 1048576) :
    Calls Tryz.prog 74 #[.agg #[.int .i64 g.s, .int .i64 g.l, .int .i64 g.c, .int .i64 g.sh, .slice A n cap], .slice LA ln lc] w (MadeReps AtW (replD g ds).1 (replD g ds).2 w) := by
  have D := Box.new w 26 #[.int .i64 g.s, .int .i64 g.l, .int .i64 g.c, .int .i64 g.sh, .slice A n cap]
  have E := bel_alloc w (.cells #[.int .i64 g.s, .int .i64 g.l, .int .i64 g.c, .int .i64 g.sh, .slice A n cap] 26)
  have HR := Lib.hid (RowF.later hgr.all E)
  have HD := Lib.hid (hds.later E)
  have HM := Lib.hid hm
  have hln := hds.1
  have HT := Lib.hid htot
  have hlnb : ln ≤ 1048576 := by
    have h : ds.length ≤ totC ds := by
      unfold totC
      clear hds htot HD HT hln
      induction ds with
      | nil => exact Nat.zero_le _
      | cons d ds ih => simp only [List.map_cons, List.sum_cons, List.length_cons]; omega
    omega
  have HL := Lib.hid hln
  clear hgr hds hm htot hln
  go_enter Tryz.func74, Tryz.ntmps74
  go_upto_region 1 with fail
  generalize (w.alloc _ : World) = w0 at D E HR HD ⊢
  obtain ⟨g0, g1, g2, g3, g4⟩ := D.five
  rcases hok : okG g with _ | _
  · skip
    have hrep := Lib.hid (show replD g ds = ([], false) from by unfold replD; rw [hok]; rfl)
    have HO := Lib.hid hok
    clear hok
    go_wp2_with fail
    refine (specOkR_is HO.out A n cap w0 HM.out HR.out.1).mono ?_
    rintro e w1 ⟨rfl, hb⟩
    have E1 := bel_trans E hb
    have K := (regs_none AtW w1).low E1.size
    have E2 := bel_trans E1 (bel_alloc w1 (.cells #[] 80))
    go_wp2
    exact bodyPost_ret (v := .tuple #[.slice (some ⟨w1.heap.size, 0, none⟩) 0 0, .bool false]) (by simp [results, Tryz.results74, go_sem]) rfl (by rw [hrep.out]; exact ⟨w1.heap.size, 0, rfl, K, E2⟩)
  obtain ⟨hs1, hs4⟩ := okB_sh hok
  obtain ⟨ns, hns⟩ : ∃ ns : Nat, g.sh = (ns : Int) := ⟨g.sh.toNat, by omega⟩
  have hnn : g.sh.toNat = ns := by omega
  have hns1 : ns ≤ 4 := by omega
  have hmk := fun W => run_make_regs (P := Tryz.prog) 101 80 Tryz.underlying101 Tryz.infoReg9 ns (by omega) W
  have HO := Lib.hid hok
  have HN := Lib.hid hnn
  have HS := Lib.hid hns
  clear hok hnn hns
  go_wp2_with fail
  refine (specOkR_is HO.out A n cap w0 HM.out HR.out.1).mono ?_
  rintro e w1 ⟨rfl, hb⟩
  have E1 := bel_trans E hb
  have D1 := D.later hb D.lt
  have gn3 : w1.cell? ⟨w.heap.size, 3, none⟩ = some (.int .i64 (ns : Int)) := (D1.cell 3).trans (by rw [← HS.out]; rfl)
  replace HR := Lib.hid (RowF.later HR.out hb)
  replace HD := Lib.hid (HD.out.later hb)
  clear g0 g1 g2 g3 g4 hb E D hs1 hs4
  have K0 := (regs_new AtW zeroW w1 ns).low E1.size
  have hb := bel_alloc w1 (.cells (madeCells #[.int .i64 0, .int .i64 0, .int .i64 0, .slice none 0 0, .slice none 0 0] (ns * 5)) 80)
  have D2 := D1.later hb D1.lt
  have E2 := bel_trans E1 hb
  replace HR := Lib.hid (RowF.later HR.out hb)
  replace HD := Lib.hid (HD.out.later hb)
  have hVG : w.heap.size < w1.heap.size := D1.lt
  go_wp2_with fail
  clear gn3 hmk hb D1
  generalize (w1.alloc (.cells (madeCells #[.int .i64 0, .int .i64 0, .int .i64 0, .slice none 0 0, .slice none 0 0] (ns * 5)) 80)) = w2 at K0 D2 E2 HR HD ⊢
  generalize w1.heap.size = G at K0 hVG ⊢
  clear E1
  have hsh : ∀ k, (shelves g (ds.take k)).length = ns := fun k => by rw [shelves_len]; exact HN.out
  go_loopw [7] (fun i wr => ∃ k : Nat, k ≤ ln ∧ i = .int .i64 k ∧ Hid (∀ j, j < k → isAt g ds j = true) ∧ RegsOwn AtW wr G w.heap.size (shelves g (ds.take k)) ∧ w2.grownBy wr (some G)) (fun i _ => ln - (intOf i).toNat)
  case atStart => exact ⟨0, Nat.zero_le _, rfl, Lib.hid (fun j hj => absurd hj (by omega)), by unfold shelves; rw [List.take_zero, List.foldl_nil, HN.out]; exact K0, grown_refl _ _⟩
  case round =>
    clear K0
    obtain ⟨k, hk, rfl, hall, K, hgw⟩ := hrel
    have E := bel_grown E2 hgw (by omega)
    have D := D2.kept hgw (by intro e; injection e with e; omega)
    have TG := Turns.of_grown hgw
    by_cases hlt : k < ln
    · skip
      obtain ⟨b, o, hA, hbF, hbl, hcell⟩ := (HD.out.turn TG (fun b hb e => by omega)).2 (by omega)
      subst hA
      have hkd : k < ds.length := by have := HL.out; omega
      obtain ⟨L, m, mc, hrec, hmm, hps⟩ := hcell k hkd
      clear hcell
      have HRw := Lib.hid (HR.out.turn TG (fun b hb e => by omega)).1
      obtain ⟨d, hd⟩ : ∃ d : RecD, ds[k] = d := ⟨_, rfl⟩
      have hAt := isAt_lt (g := g) hkd
      have htm := totC_mem ds hkd
      have hstep := shelves_snoc g ds hkd
      rw [hd] at hrec hps hAt htm hstep
      have HPw := Lib.hid hps.1
      have hmd : d.ps.length = m := hps.1.1
      have hm4 : m ≤ 4194304 := by have := HT.out; omega
      have HS2 := Lib.hid hstep
      have HA := Lib.hid hAt
      clear hd hmd htm hstep hAt hps
      obtain ⟨c0, c1, c2, c3, c4, c5, c6, c7, c8⟩ := hrec
      have hDl := D.lt
      obtain ⟨e0, e1, e2, e3, e4⟩ := fiveAfter D
      have f0 := After.cell hbl c0
      have f1 := After.cell hbl c1
      have f2 := After.cell hbl c2
      have f3 := After.cell hbl c3
      have f4 := After.cell hbl c4
      have f5 := After.cell hbl c5
      have f6 := After.cell hbl c6
      have f7 := After.cell hbl c7
      have f8 := After.cell hbl c8
      have hltI : (k : Int) < (ln : Int) := by omega
      have hkw : IntKind.i64.wrap ((k : Int) + 1) = (k : Int) + 1 := IntWalk.i64_in _ (by omega)
      go_upto_region 7 with fail
      by_cases hno : d.r1 = (k : Int) + 1
      rotate_left
      · skip
        have hne : (d.r1 != (k : Int) + 1) = true := by simpa using hno
        have hf : isAt g ds k = false := by rw [HA.out]; simp [hno]
        clear hno
        refine wp_region_after (by kernel_rfl) (by kernel_rfl) ?_
        repeat (first | go_big_quiet_step (fail) | quiet_step (fail))
        refine wpQuiet_nil ?_
        intro pw
        have hrep := Lib.hid (show replD g ds = ([], false) from by unfold replD; rw [allAt_false hkd hf, Bool.and_false]; rfl)
        have E3 := bel_trans E pw.bel
        have K3 := (regs_none AtW pw.x).low E3.size
        have E4 := bel_trans E3 (bel_alloc pw.x (.cells #[] 80))
        go_wp2
        exact bodyPost_ret (v := .tuple #[.slice (some ⟨pw.x.heap.size, 0, none⟩) 0 0, .bool false]) (by simp [results, Tryz.results74, go_sem]) rfl (by rw [hrep.out]; exact ⟨pw.x.heap.size, 0, rfl, K3, E4⟩)
      have hne : (d.r1 != (k : Int) + 1) = false := by simpa using hno
      rcases hrb : rokD g d with _ | _
      · skip
        have hf : isAt g ds k = false := by rw [HA.out, hrb, Bool.and_false]
        have HB : Hid (rokB g.s g.l g.c g.sh g.zs d.r1 d.r2 d.r3 d.r4 d.r5 d.r6 d.r7 d.ps d.r8 = false) := Lib.hid hrb
        clear hrb hno
        refine wp_region_after (by kernel_rfl) (by kernel_rfl) ?_
        repeat (first | go_big_quiet_step ((go_at_call 134; exact after_of (specRecOk_is HB.out A n cap L m mc _ HM.out (rowAfter HRw.out _) hm4 (pairsAfter HPw.out _)))) | quiet_step ((go_at_call 134; exact after_of (specRecOk_is HB.out A n cap L m mc _ HM.out (rowAfter HRw.out _) hm4 (pairsAfter HPw.out _)))))
        refine wpQuiet_nil ?_
        intro pw
        have hrep := Lib.hid (show replD g ds = ([], false) from by unfold replD; rw [allAt_false hkd hf, Bool.and_false]; rfl)
        have E3 := bel_trans E pw.bel
        have K3 := (regs_none AtW pw.x).low E3.size
        have E4 := bel_trans E3 (bel_alloc pw.x (.cells #[] 80))
        go_wp2
        exact bodyPost_ret (v := .tuple #[.slice (some ⟨pw.x.heap.size, 0, none⟩) 0 0, .bool false]) (by simp [results, Tryz.results74, go_sem]) rfl (by rw [hrep.out]; exact ⟨pw.x.heap.size, 0, rfl, K3, E4⟩)
      have hf : isAt g ds k = true := by rw [HA.out, hrb]; simp [hno]
      have HB : Hid (rokB g.s g.l g.c g.sh g.zs d.r1 d.r2 d.r3 d.r4 d.r5 d.r6 d.r7 d.ps d.r8 = true) := Lib.hid hrb
      obtain ⟨hr0, hr1, -, hkn⟩ := rok_shelf hrb
      clear hrb hno
      refine wp_region_after (by kernel_rfl) (by kernel_rfl) ?_
      repeat (first | go_big_quiet_step ((go_at_call 134; exact after_of (specRecOk_is HB.out A n cap L m mc _ HM.out (rowAfter HRw.out _) hm4 (pairsAfter HPw.out _)))) | quiet_step ((go_at_call 134; exact after_of (specRecOk_is HB.out A n cap L m mc _ HM.out (rowAfter HRw.out _) hm4 (pairsAfter HPw.out _)))))
      refine wpQuiet_nil ?_
      intro pw
      clear f0 f1 f2 f3 f4 f5 f6 f7 f8 e0 e1 e2 e3 e4 hkw
      have hb := pw.bel
      have hgw3 := grown_trans hgw (grown_bel hb (some G))
      replace K := RegsOwn.later keepsW K hb
      replace D := D.later hb D.lt
      replace E := bel_trans E hb
      replace HRw := Lib.hid (rowAfter HRw.out pw)
      replace HPw := Lib.hid (pairsAfter HPw.out pw)
      have T : ∀ j x, wr.cell? ⟨b, j, none⟩ = some x → pw.x.cell? ⟨b, j, none⟩ = some x := fun j x h => (hb.cell (p := ⟨b, j, none⟩) hbl).trans h
      replace c0 := T _ _ c0
      replace c1 := T _ _ c1
      replace c2 := T _ _ c2
      replace c3 := T _ _ c3
      replace c4 := T _ _ c4
      replace c5 := T _ _ c5
      replace c6 := T _ _ c6
      replace c7 := T _ _ c7
      replace c8 := T _ _ c8
      obtain ⟨i, hi⟩ : ∃ i : Nat, d.r3 = (i : Int) := ⟨d.r3.toNat, by omega⟩
      have hin : i < ns := by have := HS.out; omega
      rw [hi] at c2
      have hbG : b ≠ G := by omega
      clear T hb
      generalize pw.x = w3 at K D E HRw HPw hgw3 c0 c1 c2 c3 c4 c5 c6 c7 c8 ⊢
      have hit : d.r3.toNat = i := by omega
      have hil : i < (shelves g (ds.take k)).length := by rw [hsh]; exact hin
      have hall2 : ∀ j, j < k + 1 → isAt g ds j = true := fun j hj => by
        by_cases e : j = k
        · rw [e]; exact hf
        · exact hall.out j (by omega)
      have hgd : regG g d.r3 ((shelves g (ds.take k))[i]) = true := by rw [hi]; exact good_shelves HO.out k (by omega) hall.out i hil
      have hsz := shelves_sz g ds k (by omega) i
      have htk := totC_take ds k
      rw [regOf_lt hil] at hsz
      have hsn : shelves g (ds.take (k + 1)) = (shelves g (ds.take k)).set i (ontoD g d ((shelves g (ds.take k))[i])) := by rw [HS2.out]; unfold stepR; rw [hit, regOf_lt hil]
      have hs1 : ((shelves g (ds.take k))[i]).ps.length ≤ 2000000 := by have := HT.out; omega
      have hs2 : ((shelves g (ds.take k))[i]).os.length ≤ 2000000 := by have := HT.out; omega
      have HI := Lib.hid hi
      have HSN := Lib.hid hsn
      have HA2 := Lib.hid hall2
      have HIT := Lib.hid hit
      clear hi hsn hall2 hit hf hsz htk hr0 hr1 HA HB hall hgw
      go_upto_region 9 with fail
      refine wp_region_sink 6 (fun w' => Box w' w.heap.size 26 #[.int .i64 g.s, .int .i64 g.l, .int .i64 g.c, .int .i64 g.sh, .slice A n cap] ∧ w'.cell? ⟨b, o + k * 9, none⟩ = some (.int .i64 d.r1) ∧ w'.cell? ⟨b, o + k * 9 + 1, none⟩ = some (.int .i64 d.r2) ∧ w'.cell? ⟨b, o + k * 9 + 2, none⟩ = some (.int .i64 (i : Int)) ∧ w'.cell? ⟨b, o + k * 9 + 3, none⟩ = some (.int .i64 d.r4) ∧ w'.cell? ⟨b, o + k * 9 + 4, none⟩ = some (.int .i64 d.r5) ∧ w'.cell? ⟨b, o + k * 9 + 5, none⟩ = some (.int .i64 d.r6) ∧ w'.cell? ⟨b, o + k * 9 + 6, none⟩ = some (.int .i64 d.r7) ∧ w'.cell? ⟨b, o + k * 9 + 7, none⟩ = some (.slice L m mc) ∧ w'.cell? ⟨b, o + k * 9 + 8, none⟩ = some (.int .i64 d.r8)) (by kernel_rfl) ⟨D, c0, c1, c2, c3, c4, c5, c6, c7, c8⟩ (fun hH => ?_)
      have hb := (Below.refl w3.heap.size w3).drew
      replace K := RegsOwn.later keepsW K hb
      replace E := bel_trans E hb
      replace HRw := Lib.hid ((HRw.out.below hb (Nat.le_refl _)).more hb.size)
      replace HPw := Lib.hid (HPw.out.later hb)
      replace hgw3 := grown_trans hgw3 (grown_bel hb (some G))
      clear hb D c0 c1 c2 c3 c4 c5 c6 c7 c8
      generalize w3.drew = w4 at K E HRw HPw hgw3 hH ⊢
      refine wpAnyE_take (i := 0) (v := .agg #[.int .i64 g.s, .int .i64 g.l, .int .i64 g.c, .int .i64 g.sh, .slice A n cap]) (by simp only [List.getElem?_toArray, List.getElem?_cons_zero]; rfl) (by kernel_rfl) (by kernel_rfl) (by kernel_rfl) (by exact fun _ _ _ h => h) (by kernel_rfl) (Or.inl ⟨by rfl, ?y1⟩) hH ?r1
      case y1 => (intro w' hSw; have hg0 : w'.cell? ⟨w.heap.size, 0, none⟩ = some (.int .i64 g.s) := hSw.1.cell 0; have hg1 : w'.cell? ⟨w.heap.size, 1, none⟩ = some (.int .i64 g.l) := hSw.1.cell 1; have hg2 : w'.cell? ⟨w.heap.size, 2, none⟩ = some (.int .i64 g.c) := hSw.1.cell 2; have hg3 : w'.cell? ⟨w.heap.size, 3, none⟩ = some (.int .i64 g.sh) := hSw.1.cell 3; have hg4 : w'.cell? ⟨w.heap.size, 4, none⟩ = some (.slice A n cap) := hSw.1.cell 4; clear hSw; go_simp; try with_reducible rfl)
      try simp only [Act.put, List.setIfInBounds_toArray, List.set_cons_zero, List.set_cons_succ]
      refine wpAnyE_pure (i := 1) (v := ?vu1) (by simp only [List.getElem?_toArray, List.getElem?_cons_succ, List.getElem?_cons_zero]; rfl) (by kernel_rfl) (by kernel_rfl) (by kernel_rfl) (by exact fun _ _ _ h => h) (by kernel_rfl) (Or.inl ⟨by rfl, ?yu1⟩) hH ?ru1
      case yu1 => (intro w' hSw; (try dsimp only at hSw); go_simp; try with_reducible rfl)
      try simp only [Act.put, List.setIfInBounds_toArray, List.set_cons_zero, List.set_cons_succ]
      refine wpAnyE_pure (i := 2) (v := ?vu2) (by simp only [List.getElem?_toArray, List.getElem?_cons_succ, List.getElem?_cons_zero]; rfl) (by kernel_rfl) (by kernel_rfl) (by kernel_rfl) (by exact fun _ _ _ h => h) (by kernel_rfl) (Or.inl ⟨by rfl, ?yu2⟩) hH ?ru2
      case yu2 => (intro w' hSw; (try dsimp only at hSw); go_simp; try with_reducible rfl)
      try simp only [Act.put, List.setIfInBounds_toArray, List.set_cons_zero, List.set_cons_succ]
      refine wpAnyE_pure (i := 3) (v := ?vu3) (by simp only [List.getElem?_toArray, List.getElem?_cons_succ, List.getElem?_cons_zero]; rfl) (by kernel_rfl) (by kernel_rfl) (by kernel_rfl) (by exact fun _ _ _ h => h) (by kernel_rfl) (Or.inl ⟨by rfl, ?yu3⟩) hH ?ru3
      case yu3 => (intro w' hSw; (try dsimp only at hSw); go_simp; try with_reducible rfl)
      try simp only [Act.put, List.setIfInBounds_toArray, List.set_cons_zero, List.set_cons_succ]
      refine wpAnyE_pure (i := 4) (v := ?vu4) (by simp only [List.getElem?_toArray, List.getElem?_cons_succ, List.getElem?_cons_zero]; rfl) (by kernel_rfl) (by kernel_rfl) (by kernel_rfl) (by exact fun _ _ _ h => h) (by kernel_rfl) (Or.inl ⟨by rfl, ?yu4⟩) hH ?ru4
      case yu4 => (intro w' hSw; (try dsimp only at hSw); go_simp; try with_reducible rfl)
      try simp only [Act.put, List.setIfInBounds_toArray, List.set_cons_zero, List.set_cons_succ]
      refine wpAnyE_take (i := 5) (v := .agg #[.int .i64 d.r1, .int .i64 d.r2, .int .i64 (i : Int), .int .i64 d.r4, .int .i64 d.r5, .int .i64 d.r6, .int .i64 d.r7, .slice L m mc, .int .i64 d.r8]) (by simp only [List.getElem?_toArray, List.getElem?_cons_succ, List.getElem?_cons_zero]; rfl) (by kernel_rfl) (by kernel_rfl) (by kernel_rfl) (by exact fun _ _ _ h => h) (by kernel_rfl) (Or.inl ⟨by rfl, ?y2⟩) hH ?r2
      case y2 => (intro w' hSw; have hc0 : w'.cell? ⟨b, o + k * 9, none⟩ = some (.int .i64 d.r1) := hSw.2.1; have hc1 : w'.cell? ⟨b, o + k * 9 + 1, none⟩ = some (.int .i64 d.r2) := hSw.2.2.1; have hc2 : w'.cell? ⟨b, o + k * 9 + 2, none⟩ = some (.int .i64 (i : Int)) := hSw.2.2.2.1; have hc3 : w'.cell? ⟨b, o + k * 9 + 3, none⟩ = some (.int .i64 d.r4) := hSw.2.2.2.2.1; have hc4 : w'.cell? ⟨b, o + k * 9 + 4, none⟩ = some (.int .i64 d.r5) := hSw.2.2.2.2.2.1; have hc5 : w'.cell? ⟨b, o + k * 9 + 5, none⟩ = some (.int .i64 d.r6) := hSw.2.2.2.2.2.2.1; have hc6 : w'.cell? ⟨b, o + k * 9 + 6, none⟩ = some (.int .i64 d.r7) := hSw.2.2.2.2.2.2.2.1; have hc7 : w'.cell? ⟨b, o + k * 9 + 7, none⟩ = some (.slice L m mc) := hSw.2.2.2.2.2.2.2.2.1; have hc8 : w'.cell? ⟨b, o + k * 9 + 8, none⟩ = some (.int .i64 d.r8) := hSw.2.2.2.2.2.2.2.2.2; clear hSw; go_simp; try with_reducible rfl)
      try simp only [Act.put, List.setIfInBounds_toArray, List.set_cons_zero, List.set_cons_succ]
      refine wpAnyE_last (by kernel_rfl) (by simp only [List.getElem?_toArray, List.getElem?_cons_succ, List.getElem?_cons_zero]; rfl) (by kernel_rfl) (fun K' hK => ?_)
      go_simp
      refine (l9Apply_is g d A n cap L m mc G ns ns w.heap.size (shelves g (ds.take k)) i w4 HI.out hil (hsh k) HM.out HRw.out hm4 HPw.out K hgd hkn hs1 hs2).mono ?_
      rintro e w5 ⟨⟨v, rfl⟩, K5, hg5⟩
      have hgw5 := grown_trans hgw3 hg5
      rw [← HSN.out] at K5
      refine hK.out _ _ ?_
      clear hK K' hH K
      try simp only [Act.put, List.setIfInBounds_toArray, List.set_cons_zero, List.set_cons_succ]
      have hkw : IntKind.i64.wrap ((k : Int) + 1) = (k : Int) + 1 := IntWalk.i64_in _ (by omega)
      go_wp2
      go_roundw
      case rel => exact ⟨k + 1, by omega, by go_num, HA2, K5, hgw5⟩
      case measure => simp [intOf]; omega
    · skip
      have hkn : k = ln := by omega
      subst hkn
      have hrep := Lib.hid (show replD g ds = (shelves g ds, true) from by
        unfold replD
        rw [HO.out, allAt_true (fun j hj => hall.out j (by have := HL.out; omega))]
        rfl)
      have hfull : ds.take k = ds := List.take_of_length_le (by have := HL.out; omega)
      rw [hfull] at K
      have hshl : (shelves g ds).length = ns := by rw [shelves_len]; exact HN.out
      have HSL := Lib.hid hshl
      clear hshl hfull hsh
      go_wp2
      exact bodyPost_ret (v := .tuple #[.slice (some ⟨G, 0, none⟩) ns ns, .bool true]) (by simp [results, Tryz.results74, go_sem]) rfl (by rw [hrep.out]; exact ⟨G, ns, by rw [HSL.out], K, E⟩)

end Go.Proofs.YtjdepjpjjgkmbaaGreat

/- The program's Replayed: a loop over the iterator of the records (written by replay_i.py); conditions: the sizes. -/
namespace Go.Proofs.YtjdepjpjjgkmbaaGreat
open Go Go.RowKit Go.Shelf

attribute [local go_sem] Oper.semAt_some

theorem recsOf_is (g : GrpD) (A : Option Addr) (n cap : Nat) (LA : Option Addr) (ln lc : Nat) (w : World) :
    Calls Tryz.prog 177 #[.agg #[.int .i64 g.s, .int .i64 g.l, .int .i64 g.c, .int .i64 g.sh, .slice A n cap], .slice LA ln lc] w fun e w' => e = .returned (.func (.func 217) #[] #[.pointer (some ⟨w.heap.size + 1, 0, none⟩), .pointer (some ⟨w.heap.size, 0, none⟩)]) ∧ w' = (w.alloc (.cells #[.int .i64 g.s, .int .i64 g.l, .int .i64 g.c, .int .i64 g.sh, .slice A n cap] 26)).alloc (.cells #[.slice LA ln lc] 27) := by
  go_enter Tryz.func177, Tryz.ntmps177
  go_wp2
  go_ret
  exact ⟨by simp, rfl⟩

theorem results_cells2 {P : Program} {fn : Func} {x y : Tmp} {t1 t2 : TypeId} (h : fn.results = #[.cell x t1, .cell y t2]) (tmps : Array Value) (w : World) {a b : Addr} {v1 v2 : Value} (hx : tmps.getD x undef = .pointer (some a)) (hy : tmps.getD y undef = .pointer (some b))
    (h1 : (loadVar t1 a).run P w = .ok v1 w) (h2 : (loadVar t2 b).run P w = .ok v2 w) : (results fn tmps).run P w = .ok (.tuple #[v1, v2]) w := by
  have ex : tmps[x]?.getD undef = .pointer (some a) := by simpa using hx
  have ey : tmps[y]?.getD undef = .pointer (some b) := by simpa using hy
  simp [results, h, ex, ey, asAddr, h1, h2]
theorem load_oneR {w : World} {a : Addr} {v : Value} (hc : w.cell? a = some v) : (loadVar 101 a).run Tryz.prog w = .ok v w := by
  simp [loadVar, isAgg, underlying, Tryz.underlying101, hc, go_sem]
theorem load_oneB {w : World} {a : Addr} {v : Value} (hc : w.cell? a = some v) : (loadVar 4 a).run Tryz.prog w = .ok v w := by
  simp [loadVar, isAgg, underlying, Tryz.underlying4, hc, go_sem]
theorem cell_set_self {w : World} {a : Addr} {u v : Value} (h : w.cell? a = some u) : (w.setCell a v).cell? a = some v := World.cell?_setCell_same' _ _ _ (by rw [h]; rfl)
theorem cell_set_other {w : World} {g g' o o' : Nat} {u v : Value} (h : w.cell? ⟨g, o, none⟩ = some u) (hne : g ≠ g') : (w.setCell ⟨g', o', none⟩ v).cell? ⟨g, o, none⟩ = some u := by
  rw [World.cell?_of_block (Below.heap_setCell w ⟨g', o', none⟩ v g hne)]
  exact h

/-- Between two rounds. -/
structure InvR (g : GrpD) (ds : List RecD) (A : Option Addr) (n cap : Nat) (w : World) (G ns : Nat) (pre : List (Fin ds.length)) (W : World) : Prop where
  D : Box W w.heap.size 26 #[.int .i64 g.s, .int .i64 g.l, .int .i64 g.c, .int .i64 g.sh, .slice A n cap]
  R4 : Box W (w.heap.size + 1) 101 #[.slice none 0 0]
  R5 : Box W (w.heap.size + 1 + 1) 4 #[.bool false]
  R6 : Box W (G + 1) 101 #[.slice (some ⟨G, 0, none⟩) ns ns]
  K : RegsOwn LieE W G G (shI g ds pre)
  all : ∀ k, k ∈ pre → isAt g ds k.val = true
  E : Below w.heap.size w W
theorem InvR.own {g : GrpD} {ds : List RecD} {A : Option Addr} {n cap : Nat} {w : World} {G ns N : Nat} (hN : w.heap.size ≤ N) : OwnFrom N (fun pre W => InvR g ds A n cap w G ns pre W) := fun pre X Y row hs hg hr => by
  have hk := cellsK_own hg (fun r e => (hr r e).2)
  exact ⟨hk.box hs.D, hk.box hs.R4, hk.box hs.R5, hk.box hs.R6, hs.K.cells hk, hs.all, ownFrom_below (β := Unit) (Nat.le_refl _) hN () X Y row hs.E hg hr⟩
theorem InvR.later {g : GrpD} {ds : List RecD} {A : Option Addr} {n cap : Nat} {w : World} {G ns : Nat} {pre : List (Fin ds.length)} {W W' : World} (h : InvR g ds A n cap w G ns pre W) (hb : Below W.heap.size W W') : InvR g ds A n cap w G ns pre W' :=
  ⟨h.D.later hb h.D.lt, h.R4.later hb h.R4.lt, h.R5.later hb h.R5.lt, h.R6.later hb h.R6.lt, RegsOwn.later keepsLE h.K hb, h.all, bel_trans h.E hb⟩
theorem InvR.put {g : GrpD} {ds : List RecD} {A : Option Addr} {n cap : Nat} {w : World} {G ns : Nat} {pre pre' : List (Fin ds.length)} {W W' : World} (h : InvR g ds A n cap w G ns pre W) (ht : Turns (· = G) W W') (hG : w.heap.size + 1 + 1 < G) (hK : RegsOwn LieE W' G G (shI g ds pre')) (hall : ∀ k, k ∈ pre' → isAt g ds k.val = true) : InvR g ds A n cap w G ns pre' W' :=
  ⟨h.D.turn ht (by omega), h.R4.turn ht (by omega), h.R5.turn ht (by omega), h.R6.turn ht (by omega), hK, hall, ht.below h.E (fun i e => by omega)⟩
/-- A round that goes on: what it keeps. -/
theorem turns_row5 (w2 : World) (G : Nat) {o0 o1 o2 o3 o4 : Nat} (x0 x1 x2 x3 x4 : Value) : Turns (· = G) w2 (((((w2.setCell ⟨G, o0, none⟩ x0).setCell ⟨G, o1, none⟩ x1).setCell ⟨G, o2, none⟩ x2).setCell ⟨G, o3, none⟩ x3).setCell ⟨G, o4, none⟩ x4) :=
  ((((turns_cell5 w2 G _ _).trans (turns_cell5 _ G _ _)).trans (turns_cell5 _ G _ _)).trans (turns_cell5 _ G _ _)).trans (turns_cell5 _ G _ _)
/-- A round that left. -/
structure OutR (g : GrpD) (ds : List RecD) (w : World) (W : World) : Prop where
  no : ∃ k : Fin ds.length, isAt g ds k.val = false
  res : ∃ E0, Box W (w.heap.size + 1) 101 #[.slice (some ⟨E0, 0, none⟩) 0 0] ∧ Box W (w.heap.size + 1 + 1) 4 #[.bool false] ∧ RegsOwn LieE W E0 E0 [] ∧ w.heap.size ≤ E0
  E : Below w.heap.size w W
theorem OutR.own {g : GrpD} {ds : List RecD} {w : World} {N : Nat} (hN : w.heap.size ≤ N) {β : Type} (p : β → Prop) : OwnFrom N (fun s W => p s ∧ OutR g ds w W) := fun s X Y row hs hg hr => by
  have hk := cellsK_own hg (fun r e => (hr r e).2)
  obtain ⟨E0, h1, h2, h3, h4⟩ := hs.2.res
  exact ⟨hs.1, hs.2.no, ⟨E0, hk.box h1, hk.box h2, h3.cells hk, h4⟩, ownFrom_below (β := Unit) (Nat.le_refl _) hN () X Y row hs.2.E hg hr⟩
theorem totC_len (ds : List RecD) : ds.length ≤ totC ds := by
  unfold totC
  induction ds with
  | nil => exact Nat.zero_le _
  | cons d ds ih => simp only [List.map_cons, List.sum_cons, List.length_cons]; omega
theorem keepsFrom_below {N : Nat} {W W' : World} (h : Below W.heap.size W W') : KeepsFrom N W W' := ⟨h.size, fun k _ _ hk _ => (h.block k (Array.getElem?_eq_some_iff.1 hk).1).trans hk⟩
/-- The frame in which a round's body runs. -/
def frmR (g : GrpD) (ds : List RecD) (A : Option Addr) (n cap : Nat) (LA : Option Addr) (ln lc : Nat) (L : Nat → Option Addr) (m mc : Nat → Nat) (w : World) (G ns B : Nat) (x : Fin ds.length) (Bx : Nat) : Act :=
  { tmps := #[.agg #[.int .i64 g.s, .int .i64 g.l, .int .i64 g.c, .int .i64 g.sh, .slice A n cap], .slice LA ln lc, .pointer (some ⟨w.heap.size, 0, none⟩), undef, .pointer (some ⟨w.heap.size + 1, 0, none⟩), .pointer (some ⟨w.heap.size + 1 + 1, 0, none⟩), .pointer (some ⟨G + 1, 0, none⟩), .pointer (some ⟨Bx, 0, none⟩), .bool (isAt g ds x.val), .agg #[.int .i64 g.s, .int .i64 g.l, .int .i64 g.c, .int .i64 g.sh, .slice A n cap], .bool true, .bool false, undef, .pointer (some ⟨w.heap.size, 3, none⟩), .int .i64 ns, .slice (some ⟨G, 0, none⟩) ns ns, .agg #[.int .i64 g.s, .int .i64 g.l, .int .i64 g.c, .int .i64 g.sh, .slice A n cap], .slice LA ln lc, .func (.func 217) #[] #[.pointer (some ⟨B + 1, 0, none⟩), .pointer (some ⟨B, 0, none⟩)], .agg (cellsC ds[x.val] (L x.val) (m x.val) (mc x.val)), .bool (isAt g ds x.val), undef, undef, undef, undef, undef, undef, undef, undef, undef, undef, undef, undef, undef, undef, undef, undef], defers := [] }

set_option maxRecDepth 100000 in
set_option maxHeartbeats 16000000 in
theorem replayed_is (g : GrpD) (ds : List RecD) (A : Option Addr) (n cap : Nat) (LA : Option Addr) (ln lc : Nat) (w : World) (hm : n ≤ maxLen) (hgr : Row w w.heap.size A n g.zs) (hds : RecsF ds w (· < w.heap.size) LA ln) (htot : totC ds ≤ 1048576) :
    Calls Tryz.prog 131 #[.agg #[.int .i64 g.s, .int .i64 g.l, .int .i64 g.c, .int .i64 g.sh, .slice A n cap], .slice LA ln lc] w (MadeReps LieE (replD g ds).1 (replD g ds).2 w) := by
  refine (callsIn_wide (n := 3)).1 ?_
  refine callsIn_of_wp_marks Tryz.func131 rfl trivial ?_ rfl
  simp only [Tryz.ntmps131, List.size_toArray, List.length_cons, List.length_nil, Nat.reduceAdd, Nat.reduceSub, Array.replicate_succ, Array.replicate_zero, List.push_toArray, List.append_toArray, List.nil_append, List.cons_append]
  have E := bel_trans (bel_trans (bel_alloc w (.cells #[.int .i64 g.s, .int .i64 g.l, .int .i64 g.c, .int .i64 g.sh, .slice A n cap] 26)) (bel_alloc _ (.cells #[.slice none 0 0] 101))) (bel_alloc _ (.cells #[.bool false] 4))
  have D := ((Box.new w 26 #[.int .i64 g.s, .int .i64 g.l, .int .i64 g.c, .int .i64 g.sh, .slice A n cap]).alloc (.cells #[.slice none 0 0] 101)).alloc (.cells #[.bool false] 4)
  have R4 := (Box.new (w.alloc (.cells #[.int .i64 g.s, .int .i64 g.l, .int .i64 g.c, .int .i64 g.sh, .slice A n cap] 26)) 101 #[.slice none 0 0]).alloc (.cells #[.bool false] 4)
  have R5 := Box.new ((w.alloc (.cells #[.int .i64 g.s, .int .i64 g.l, .int .i64 g.c, .int .i64 g.sh, .slice A n cap] 26)).alloc (.cells #[.slice none 0 0] 101)) 4 #[.bool false]
  simp only [World.size_alloc] at R4 R5
  have HR := Lib.hid (RowF.later hgr.all E)
  have HD := Lib.hid (hds.later E)
  have HM := Lib.hid hm
  have HL := Lib.hid hds.1
  have HT := Lib.hid htot
  have HRW := Lib.hid hgr.all
  obtain ⟨L, m, mc, hVw⟩ := hds.vals
  have HVW := Lib.hid hVw
  clear hgr hds hm htot hVw
  gi_upto_region 1 with fail
  generalize (((w.alloc _).alloc _).alloc _ : World) = w0 at D E R4 R5 HR HD ⊢
  obtain ⟨g0, g1, g2, g3, g4⟩ := D.five
  rcases hok : okG g with _ | _
  · skip
    have hrep := Lib.hid (show replD g ds = ([], false) from by unfold replD; rw [hok]; rfl)
    have HO := Lib.hid hok
    clear hok
    gi_upto_region 2 with (refine ⟨trivial, ?_⟩; gi_at_call 175; refine (callsIn_wide.2 (groupB_is (show okB g.s g.l g.c g.sh g.zs = _ from HO.out) A n cap w0 HM.out HR.out.1)).mono ?_; rintro e w1 ⟨rfl, hb⟩)
    have E1 := bel_trans E hb
    have K := (regs_none LieE w1).low E1.size
    clear g0 g1 g2 g3 g4 D HR HD E
    replace R4 := R4.later hb R4.lt
    replace R5 := R5.later hb R5.lt
    have hz := R5.lt
    clear hb
    have E2 := bel_trans E1 (bel_alloc w1 (.cells #[] 80))
    replace R4 := R4.alloc (.cells #[] 80)
    replace R5 := R5.alloc (.cells #[] 80)
    have f4 := R4.frozen 0
    have f5 := R5.frozen 0
    have c4 : (w1.alloc (.cells #[] 80)).cell? ⟨w.heap.size + 1, 0, none⟩ = some (.slice none 0 0) := R4.cell 0
    have c5 : (w1.alloc (.cells #[] 80)).cell? ⟨w.heap.size + 1 + 1, 0, none⟩ = some (.bool false) := R5.cell 0
    replace K := (regs_none LieE w1)
    gi_wp2
    refine ⟨_, results_cells2 Tryz.results131 _ _ rfl rfl (load_oneR (cell_set_other (cell_set_self c4) (by omega))) (load_oneB (cell_set_self (cell_set_other c5 (by omega)))), ?_⟩
    rw [hrep.out]
    exact ⟨w1.heap.size, 0, rfl, (RegsOwn.turn keepsLE (RegsOwn.turn keepsLE K (turns_cell5 _ (w.heap.size + 1) 0 _) (fun b e => by omega)) (turns_cell5 _ (w.heap.size + 1 + 1) 0 _) (fun b e => by omega)).low E1.size, (turns_cell5 _ (w.heap.size + 1 + 1) 0 _).below ((turns_cell5 _ (w.heap.size + 1) 0 _).below E2 (fun i e => by omega)) (fun i e => by omega)⟩
  obtain ⟨hs1, hs4⟩ := okB_sh hok
  obtain ⟨ns, hns⟩ : ∃ ns : Nat, g.sh = (ns : Int) := ⟨g.sh.toNat, by omega⟩
  have hnn : g.sh.toNat = ns := by omega
  have hns1 : ns ≤ 4 := by omega
  have hmk := fun W => run_make_regs (P := Tryz.prog) 101 80 Tryz.underlying101 Tryz.infoReg9 ns (by omega) W
  have HO := Lib.hid hok
  have HN := Lib.hid hnn
  have HS := Lib.hid hns
  clear hok hnn hns hs1 hs4
  gi_upto_region 3 with (refine ⟨trivial, ?_⟩; gi_at_call 175; refine (callsIn_wide.2 (groupB_is (show okB g.s g.l g.c g.sh g.zs = _ from HO.out) A n cap w0 HM.out HR.out.1)).mono ?_; rintro e w1 ⟨rfl, hb⟩)
  have E1 := bel_trans E hb
  have D1 := D.later hb D.lt
  have gn3 : w1.cell? ⟨w.heap.size, 3, none⟩ = some (.int .i64 (ns : Int)) := (D1.cell 3).trans (by rw [← HS.out]; rfl)
  replace HR := Lib.hid (RowF.later HR.out hb)
  replace HD := Lib.hid (HD.out.later hb)
  replace R4 := R4.later hb R4.lt
  replace R5 := R5.later hb R5.lt
  have hz5 := R5.lt
  clear g0 g1 g2 g3 g4 hb E D
  have K0 := regs_new LieE zeroE w1 ns
  have hb1 := bel_alloc w1 (.cells (madeCells #[.int .i64 0, .int .i64 0, .int .i64 0, .slice none 0 0, .slice none 0 0] (ns * 5)) 80)
  have hb2 := bel_alloc (w1.alloc (.cells (madeCells #[.int .i64 0, .int .i64 0, .int .i64 0, .slice none 0 0, .slice none 0 0] (ns * 5)) 80)) (.cells #[.slice (some ⟨w1.heap.size, 0, none⟩) ns ns] 101)
  have R6 := Box.new (w1.alloc (.cells (madeCells #[.int .i64 0, .int .i64 0, .int .i64 0, .slice none 0 0, .slice none 0 0] (ns * 5)) 80)) 101 #[.slice (some ⟨w1.heap.size, 0, none⟩) ns ns]
  rw [World.size_alloc] at R6
  have K := RegsOwn.later keepsLE K0 hb2
  have hb3 := bel_trans hb1 hb2
  have D2 := D1.later hb3 D1.lt
  have E2 := bel_trans E1 hb3
  replace HR := Lib.hid (RowF.later HR.out hb3)
  replace HD := Lib.hid (HD.out.later hb3)
  replace R4 := R4.later hb3 R4.lt
  replace R5 := R5.later hb3 R5.lt
  have hVG : w.heap.size + 1 + 1 < w1.heap.size := hz5
  gi_upto_region 4 with fail
  clear gn3 hmk hb1 hb2 hb3 D1 K0 E1
  generalize ((w1.alloc (.cells (madeCells #[.int .i64 0, .int .i64 0, .int .i64 0, .slice none 0 0, .slice none 0 0] (ns * 5)) 80)).alloc _ : World) = w2 at K R4 R5 R6 D2 E2 HR HD ⊢
  generalize w1.heap.size = G at K R6 hVG ⊢
  obtain ⟨g0, g1, g2, g3, g4⟩ := D2.five
  gi_wp2_with (refine ⟨trivial, ?_⟩; gi_at_call 177; refine (callsIn_wide.2 (recsOf_is g A n cap LA ln lc _)).mono ?_; rintro e w' ⟨rfl, rfl⟩)
  clear g0 g1 g2 g3 g4
  have hb0 : Below w2.heap.size w2 ((w2.alloc (.cells #[.int .i64 g.s, .int .i64 g.l, .int .i64 g.c, .int .i64 g.sh, .slice A n cap] 26)).alloc (.cells #[.slice LA ln lc] 27)) := bel_trans (bel_alloc w2 (.cells #[.int .i64 g.s, .int .i64 g.l, .int .i64 g.c, .int .i64 g.sh, .slice A n cap] 26)) (bel_alloc (w2.alloc (.cells #[.int .i64 g.s, .int .i64 g.l, .int .i64 g.c, .int .i64 g.sh, .slice A n cap] 26)) (.cells #[.slice LA ln lc] 27))
  have X2 := (Box.new w2 26 #[.int .i64 g.s, .int .i64 g.l, .int .i64 g.c, .int .i64 g.sh, .slice A n cap]).alloc (.cells #[.slice LA ln lc] 27)
  have X1 := Box.new (w2.alloc (.cells #[.int .i64 g.s, .int .i64 g.l, .int .i64 g.c, .int .i64 g.sh, .slice A n cap] 26)) 27 #[.slice LA ln lc]
  rw [World.size_alloc] at X1
  have hGB := R6.lt
  have IV : InvR g ds A n cap w G ns [] w2 := ⟨D2, R4, R5, R6, by unfold shI; rw [List.foldl_nil, HN.out]; exact K, fun k hk => (by cases hk), E2⟩
  replace IV := IV.later hb0
  replace HR := Lib.hid (RowF.later HR.out hb0)
  replace HD := Lib.hid (HD.out.later hb0)
  have hV := HVW.out.turn (T := fun _ => False) (Turns.of_below IV.E) (fun _ _ h => h)
  have hsB := hb0.size
  have hEs := E2.size
  have hx1 := X1.lt
  clear D2 R4 R5 R6 K E2 HD hb0
  generalize (((w2.alloc (.cells #[.int .i64 g.s, .int .i64 g.l, .int .i64 g.c, .int .i64 g.sh, .slice A n cap] 26)).alloc (.cells #[.slice LA ln lc] 27)) : World) = W0 at X1 X2 IV HR hV hsB hx1 ⊢
  generalize w2.heap.size = B at X1 X2 hGB hsB hEs hx1 ⊢
  have hGw : w.heap.size ≤ G := by omega
  have hmk4 : ∀ k, k < ds.length → m k ≤ 4194304 := fun k hk => by
    by_cases h0 : 0 < ln
    · obtain ⟨b, o, -, -, -, hc⟩ := hV.2 h0
      have h1 : (ds[k]).ps.length = m k := (hc k hk).2.2.1.1
      have h2 := totC_mem ds hk
      have h3 := HT.out
      omega
    · have := HL.out
      omega
  have hln : ln ≤ 1048576 := by
    have h := totC_len ds
    have h1 := HL.out
    have h2 := HT.out
    omega
  refine wpIn_rangeFunc_ownH rfl (by decide) (gf := 217) (lb := #[.pointer (some ⟨B + 1, 0, none⟩), .pointer (some ⟨B, 0, none⟩)]) rfl trivial (enters_of Tryz.func217 (by kernel_rfl) rfl)
    (recsIter_stops g ds A n cap LA ln lc L m mc (B + 1) B G W0.heap.size (· < w.heap.size) W0 (by omega) (by omega) (fun b hb => ⟨by omega, by omega⟩) X1 X2 HM.out HR.out hV hln hmk4) (fun h k => h.trans k) (fun W l o o' hl h hc _ => keepC_put W l o o' hl h hc) (Below.refl _ _) (fun _ => rfl)
    (fun pre W => InvR g ds A n cap w G ns pre W) (fun c _ W => c = .ret ∧ OutR g ds w W) (InvR.own (by omega)) (fun c => OutR.own (by omega) (fun _ => c = .ret)) IV
    (fun x a' W => ∃ Bx, G + 1 < Bx ∧ Box W Bx 46 (cellsC ds[x.val] (L x.val) (m x.val) (mc x.val)) ∧ a' = frmR g ds A n cap LA ln lc L m mc w G ns B x Bx)
    (fun x a' _ X Y row hs hg hr => by obtain ⟨Bx, h1, h2, h3⟩ := hs; exact ⟨Bx, h1, (cellsK_own hg (fun r e => (hr r e).2)).box h2, h3⟩)
    ?assign ?body ?done ?stop
  case assign =>
    rintro l pre x W K hi hK
    simp only [encC]
    have ZB := Box.new W 46 #[.int .i64 0, .int .i64 0, .int .i64 0, .int .i64 0, .int .i64 0, .int .i64 0, .int .i64 0, .slice none 0 0, .int .i64 0]
    have hn := bel_new_row W #[.int .i64 0, .int .i64 0, .int .i64 0, .int .i64 0, .int .i64 0, .int .i64 0, .int .i64 0, .slice none 0 0, .int .i64 0] 46 (cellsC ds[x.val] (L x.val) (m x.val) (mc x.val))
    have X := (Box.new W 46 #[.int .i64 0, .int .i64 0, .int .i64 0, .int .i64 0, .int .i64 0, .int .i64 0, .int .i64 0, .slice none 0 0, .int .i64 0]).setRow (cellsC ds[x.val] (L x.val) (m x.val) (mc x.val))
    have hlt := hi.R6.lt
    gi_wp2_with (refine wpListIn_store_row (fun _ => trivial) rfl 46 _ _ rfl W.heap.size (cellsC ds[x.val] (L x.val) (m x.val) (mc x.val)) rfl rfl 46 #[.int .i64 0, .int .i64 0, .int .i64 0, .int .i64 0, .int .i64 0, .int .i64 0, .int .i64 0, .slice none 0 0, .int .i64 0] ZB (by kernel_rfl) rfl (by simp [cellsC, Value.oneCell']) ?_)
    exact hK _ _ (keepsFrom_below hn) (KeepC.of_below hn) (hi.later hn) ⟨W.heap.size, hlt, X, rfl⟩
  case body =>
    rintro l pre x a' W hl - hi ⟨Bx, hBx, bX, rfl⟩ hlt
    unfold frmR
    obtain ⟨z, hz⟩ : ∃ z, isAt g ds x.val = z := ⟨_, rfl⟩
    rw [hz]
    rcases z with _ | _
    · skip
      have R4 := hi.R4.alloc (.cells #[] 80)
      have R5 := hi.R5.alloc (.cells #[] 80)
      have f4 := R4.frozen 0
      have f5 := R5.frozen 0
      have c4 : (W.alloc (.cells #[] 80)).cell? ⟨w.heap.size + 1, 0, none⟩ = some (.slice none 0 0) := R4.cell 0
      have c5 : (W.alloc (.cells #[] 80)).cell? ⟨w.heap.size + 1 + 1, 0, none⟩ = some (.bool false) := R5.cell 0
      have HI := Lib.hid hi
      have HZ := Lib.hid hz
      have hz5 := hi.R5.lt
      clear hi hz
      gi_wp2
      have hb := bel_alloc W (.cells #[] 80)
      have t1 := turns_cell5 (W.alloc (.cells #[] 80)) (w.heap.size + 1) 0 (.slice (some ⟨W.heap.size, 0, none⟩) 0 0)
      have t2 := turns_cell5 ((W.alloc (.cells #[] 80)).setCell ⟨w.heap.size + 1, 0, none⟩ (.slice (some ⟨W.heap.size, 0, none⟩) 0 0)) (w.heap.size + 1 + 1) 0 (.bool false)
      refine ⟨((keepsFrom_below hb).trans ((KeepsOthers.setCell _ _ _).from _)).trans ((KeepsOthers.setCell _ _ _).from _), rfl, ⟨⟨x, HZ.out⟩, ⟨W.heap.size, ?_, ?_, ?_, ?_⟩, ?_⟩⟩
      · exact (R4.set 0 (.slice (some ⟨W.heap.size, 0, none⟩) 0 0)).turn t2 (by omega)
      · exact (R5.turn t1 (by omega)).set 0 (.bool false)
      · exact RegsOwn.turn keepsLE (RegsOwn.turn keepsLE (regs_none LieE W) t1 (fun b e => by omega)) t2 (fun b e => by omega)
      · exact HI.out.E.size
      · exact t2.below (t1.below (bel_trans HI.out.E hb) (fun i e => by omega)) (fun i e => by omega)
    have hAt := isAt_lt (g := g) x.isLt
    have hVx := HVW.out.2 (by have := x.isLt; have := HL.out; omega)
    obtain ⟨b, o, -, -, -, hcell⟩ := hVx
    obtain ⟨-, -, hps⟩ := hcell x.val x.isLt
    clear hcell
    have hsz := shI_sz g ds (M := 1048576) (fun k hk => by have := totC_mem ds hk; have := HT.out; omega) pre
    have hmx := hmk4 x.val x.isLt
    have hsn := shI_snoc g ds pre x
    obtain ⟨d, hd⟩ : ∃ d : RecD, ds[x.val] = d := ⟨_, rfl⟩
    rw [hd] at hAt hps hsn bX ⊢
    obtain ⟨Lk, hLk⟩ : ∃ y, L x.val = y := ⟨_, rfl⟩
    obtain ⟨mk, hmkk⟩ : ∃ y, m x.val = y := ⟨_, rfl⟩
    obtain ⟨mck, hmck⟩ : ∃ y, mc x.val = y := ⟨_, rfl⟩
    rw [hLk, hmkk] at hps
    rw [hLk, hmkk, hmck] at bX ⊢
    rw [hmkk] at hmx
    rw [hz] at hAt
    have hrk : rokD g d = true := by
      have h := hAt.symm
      rw [Bool.and_eq_true] at h
      exact h.2
    obtain ⟨hr0, hr1, -, -⟩ := rok_shelf hrk
    obtain ⟨i, hi3⟩ : ∃ i : Nat, d.r3 = (i : Int) := ⟨d.r3.toNat, by omega⟩
    have hin : i < ns := by have := HS.out; omega
    have hit : d.r3.toNat = i := by omega
    have hil : i < (shI g ds pre).length := by rw [shI_len, HN.out]; exact hin
    replace hsz := hsz i
    rw [regOf_lt hil] at hsz
    unfold stepR at hsn
    rw [hit, regOf_lt hil] at hsn
    have hpl : pre.length ≤ 1048576 := by have := HL.out; omega
    obtain ⟨r, hr⟩ : ∃ r : RegD, (shI g ds pre)[i] = r := ⟨_, rfl⟩
    rw [hr] at hsz hsn
    obtain ⟨u0, v0, c0, c1, c2, c3, c4, hA⟩ := hreg keepsLE hi.K hil
    rw [hr] at c0 c1 c2 hA
    obtain ⟨P, p, pc, Q, q, qc, rfl, rfl, hS1, hS2, hl1, hl2⟩ := hA.slc
    unfold cellsC at bX ⊢
    rw [hi3] at bX ⊢
    have HPw := Lib.hid (hps.1.later hi.E)
    have HRx := Lib.hid ((RowF.later HRW.out hi.E)).1
    have HI := Lib.hid hi
    have HSN := Lib.hid hsn
    have HSZ := Lib.hid hsz
    have HI3 := Lib.hid hi3
    have HZ := Lib.hid hz
    have HS1 := Lib.hid hS1
    have HS2 := Lib.hid hS2
    have HL1 := Lib.hid hl1
    have HL2 := Lib.hid hl2
    have hltI : (i : Int) < (ns : Int) := by omega
    have S6 := hi.R6
    have SD := hi.D
    clear hi hsn hsz hi3 hz hS1 hS2 hl1 hl2 hA hd hLk hmkk hmck hps hr0 hr1 hit hAt hrk hr
    gi_upto_region 9 with fail
    have hb := (Below.refl W.heap.size W).drew
    have hgG : G < W.heap.size := by have := S6.lt; omega
    refine wpIn_region_sink 12 (fun w' => Box w' Bx 46 #[.int .i64 d.r1, .int .i64 d.r2, .int .i64 (i : Int), .int .i64 d.r4, .int .i64 d.r5, .int .i64 d.r6, .int .i64 d.r7, .slice Lk mk mck, .int .i64 d.r8] ∧ Box w' w.heap.size 26 #[.int .i64 g.s, .int .i64 g.l, .int .i64 g.c, .int .i64 g.sh, .slice A n cap] ∧ Box w' (G + 1) 101 #[.slice (some ⟨G, 0, none⟩) ns ns] ∧ w'.cell? ⟨G, i * 5, none⟩ = some (.int .i64 r.t) ∧ w'.cell? ⟨G, i * 5 + 1, none⟩ = some (.int .i64 r.q) ∧ w'.cell? ⟨G, i * 5 + 2, none⟩ = some (.int .i64 r.v) ∧ w'.cell? ⟨G, i * 5 + 3, none⟩ = some (.slice P p pc) ∧ w'.cell? ⟨G, i * 5 + 4, none⟩ = some (.slice Q q qc)) (by kernel_rfl) ⟨bX.later hb bX.lt, SD.later hb SD.lt, S6.later hb S6.lt, c0, c1, c2, c3, c4⟩ (fun hH => ?_)
    have HB := Lib.hid hb
    replace HI := Lib.hid (HI.out.later hb)
    replace HPw := Lib.hid (HPw.out.later hb)
    replace HRx := Lib.hid ((HRx.out.below hb (Nat.le_refl _)).more hb.size)
    replace HS1 := Lib.hid (HS1.out.later hb)
    replace HS2 := Lib.hid (HS2.out.later hb)
    clear hb bX SD S6 c0 c1 c2 c3 c4
    generalize W.drew = w3 at HI HB HPw HRx HS1 HS2 hH ⊢
    refine wpAnyEI_takeP [] (plain_of (fun _ => trivial) (by kernel_rfl)) (i := 0) (v := .slice (some ⟨G, 0, none⟩) ns ns) (by simp only [List.getElem?_toArray, List.getElem?_cons_zero]; rfl) (by kernel_rfl) (by kernel_rfl) (by kernel_rfl) (by exact fun _ _ _ h => h) (by kernel_rfl) (Or.inl ⟨(by first | rfl | simp [Region.wanted, yielded] | (simp [Region.wanted, yielded, Act.put] <;> omega)), ?y0⟩) hH ?_
    case y0 => (intro w' hSw; have h0 : w'.cell? ⟨G + 1, 0, none⟩ = some (.slice (some ⟨G, 0, none⟩) ns ns) := hSw.2.2.1.cell 0; clear hSw; go_simp; try with_reducible rfl)
    try simp only [Act.put, List.setIfInBounds_toArray, List.set_cons_zero, List.set_cons_succ]
    refine wpAnyEI_pure (plain_of (fun _ => trivial) (by kernel_rfl)) (i := 1) (v := ?vu1_1) (by simp only [List.getElem?_toArray, List.getElem?_cons_succ, List.getElem?_cons_zero]; rfl) (by kernel_rfl) (by kernel_rfl) (by kernel_rfl) (by exact fun _ _ _ h => h) (by kernel_rfl) (Or.inl ⟨by rfl, ?yu1_1⟩) hH ?_
    case yu1_1 => (intro w' hSw; (try dsimp only at hSw); clear hSw; go_simp; try with_reducible rfl)
    try simp only [Act.put, List.setIfInBounds_toArray, List.set_cons_zero, List.set_cons_succ]
    refine wpAnyEI_takeP [] (plain_of (fun _ => trivial) (by kernel_rfl)) (i := 2) (v := .int .i64 (i : Int)) (by simp only [List.getElem?_toArray, List.getElem?_cons_succ, List.getElem?_cons_zero]; rfl) (by kernel_rfl) (by kernel_rfl) (by kernel_rfl) (by exact fun _ _ _ h => h) (by kernel_rfl) (Or.inl ⟨(by first | rfl | simp [Region.wanted, yielded] | (simp [Region.wanted, yielded, Act.put] <;> omega)), ?y2⟩) hH ?_
    case y2 => (intro w' hSw; have h2 : w'.cell? ⟨Bx, 2, none⟩ = some (.int .i64 (i : Int)) := hSw.1.cell 2; clear hSw; go_simp; try with_reducible rfl)
    try simp only [Act.put, List.setIfInBounds_toArray, List.set_cons_zero, List.set_cons_succ]
    refine wpAnyEI_takeP [] (plain_of (fun _ => trivial) (by kernel_rfl)) (i := 3) (v := .agg #[.int .i64 d.r1, .int .i64 d.r2, .int .i64 (i : Int), .int .i64 d.r4, .int .i64 d.r5, .int .i64 d.r6, .int .i64 d.r7, .slice Lk mk mck, .int .i64 d.r8]) (by simp only [List.getElem?_toArray, List.getElem?_cons_succ, List.getElem?_cons_zero]; rfl) (by kernel_rfl) (by kernel_rfl) (by kernel_rfl) (by exact fun _ _ _ h => h) (by kernel_rfl) ?y3 hH ?_
    case y3 => exact yields_box 46 _ rfl (Bx) rfl 46 #[.int .i64 d.r1, .int .i64 d.r2, .int .i64 (i : Int), .int .i64 d.r4, .int .i64 d.r5, .int .i64 d.r6, .int .i64 d.r7, .slice Lk mk mck, .int .i64 d.r8] (fun _ h => h.1) _ Tryz.underlying46 rfl (by kernel_rfl) (by first | rfl | simp [Region.wanted, yielded] | (simp [Region.wanted, yielded, Act.put] <;> omega))
    try simp only [Act.put, List.setIfInBounds_toArray, List.set_cons_zero, List.set_cons_succ]
    refine wpAnyEI_takeP [] (plain_of (fun _ => trivial) (by kernel_rfl)) (i := 4) (v := .agg #[.int .i64 g.s, .int .i64 g.l, .int .i64 g.c, .int .i64 g.sh, .slice A n cap]) (by simp only [List.getElem?_toArray, List.getElem?_cons_succ, List.getElem?_cons_zero]; rfl) (by kernel_rfl) (by kernel_rfl) (by kernel_rfl) (by exact fun _ _ _ h => h) (by kernel_rfl) ?y4 hH ?_
    case y4 => exact yields_box 26 _ rfl (w.heap.size) rfl 26 #[.int .i64 g.s, .int .i64 g.l, .int .i64 g.c, .int .i64 g.sh, .slice A n cap] (fun _ h => h.2.1) _ Tryz.underlying26 rfl (by kernel_rfl) (by first | rfl | simp [Region.wanted, yielded] | (simp [Region.wanted, yielded, Act.put] <;> omega))
    try simp only [Act.put, List.setIfInBounds_toArray, List.set_cons_zero, List.set_cons_succ]
    refine wpAnyEI_takeP [] (plain_of (fun _ => trivial) (by kernel_rfl)) (i := 5) (v := .slice (some ⟨G, 0, none⟩) ns ns) (by simp only [List.getElem?_toArray, List.getElem?_cons_succ, List.getElem?_cons_zero]; rfl) (by kernel_rfl) (by kernel_rfl) (by kernel_rfl) (by exact fun _ _ _ h => h) (by kernel_rfl) (Or.inl ⟨(by first | rfl | simp [Region.wanted, yielded] | (simp [Region.wanted, yielded, Act.put] <;> omega)), ?y5⟩) hH ?_
    case y5 => (intro w' hSw; have h0 : w'.cell? ⟨G + 1, 0, none⟩ = some (.slice (some ⟨G, 0, none⟩) ns ns) := hSw.2.2.1.cell 0; clear hSw; go_simp; try with_reducible rfl)
    try simp only [Act.put, List.setIfInBounds_toArray, List.set_cons_zero, List.set_cons_succ]
    refine wpAnyEI_pure (plain_of (fun _ => trivial) (by kernel_rfl)) (i := 6) (v := ?vu6_2) (by simp only [List.getElem?_toArray, List.getElem?_cons_succ, List.getElem?_cons_zero]; rfl) (by kernel_rfl) (by kernel_rfl) (by kernel_rfl) (by exact fun _ _ _ h => h) (by kernel_rfl) (Or.inl ⟨by rfl, ?yu6_2⟩) hH ?_
    case yu6_2 => (intro w' hSw; (try dsimp only at hSw); clear hSw; go_simp; try with_reducible rfl)
    try simp only [Act.put, List.setIfInBounds_toArray, List.set_cons_zero, List.set_cons_succ]
    refine wpAnyEI_takeP [] (plain_of (fun _ => trivial) (by kernel_rfl)) (i := 7) (v := .int .i64 (i : Int)) (by simp only [List.getElem?_toArray, List.getElem?_cons_succ, List.getElem?_cons_zero]; rfl) (by kernel_rfl) (by kernel_rfl) (by kernel_rfl) (by exact fun _ _ _ h => h) (by kernel_rfl) (Or.inl ⟨(by first | rfl | simp [Region.wanted, yielded] | (simp [Region.wanted, yielded, Act.put] <;> omega)), ?y7⟩) hH ?_
    case y7 => (intro w' hSw; have h2 : w'.cell? ⟨Bx, 2, none⟩ = some (.int .i64 (i : Int)) := hSw.1.cell 2; clear hSw; go_simp; try with_reducible rfl)
    try simp only [Act.put, List.setIfInBounds_toArray, List.set_cons_zero, List.set_cons_succ]
    refine wpAnyEI_pure (plain_of (fun _ => trivial) (by kernel_rfl)) (i := 8) (v := ?vu8_3) (by simp only [List.getElem?_toArray, List.getElem?_cons_succ, List.getElem?_cons_zero]; rfl) (by kernel_rfl) (by kernel_rfl) (by kernel_rfl) (by exact fun _ _ _ h => h) (by kernel_rfl) (Or.inl ⟨by rfl, ?yu8_3⟩) hH ?_
    case yu8_3 => (intro w' hSw; (try dsimp only at hSw); clear hSw; go_simp; try with_reducible rfl)
    try simp only [Act.put, List.setIfInBounds_toArray, List.set_cons_zero, List.set_cons_succ]
    refine wpAnyEI_takeP [] (plain_of (fun _ => trivial) (by kernel_rfl)) (i := 9) (v := .agg #[.int .i64 r.t, .int .i64 r.q, .int .i64 r.v, .slice P p pc, .slice Q q qc]) (by simp only [List.getElem?_toArray, List.getElem?_cons_succ, List.getElem?_cons_zero]; rfl) (by kernel_rfl) (by kernel_rfl) (by kernel_rfl) (by exact fun _ _ _ h => h) (by kernel_rfl) (Or.inl ⟨(by first | rfl | simp [Region.wanted, yielded] | (simp [Region.wanted, yielded, Act.put] <;> omega)), ?y9⟩) hH ?_
    case y9 => (intro w' hSw; have k0 := hSw.2.2.2.1; have k1 := hSw.2.2.2.2.1; have k2 := hSw.2.2.2.2.2.1; have k3 := hSw.2.2.2.2.2.2.1; have k4 := hSw.2.2.2.2.2.2.2; clear hSw; go_simp; try with_reducible rfl)
    try simp only [Act.put, List.setIfInBounds_toArray, List.set_cons_zero, List.set_cons_succ]
    refine wpAnyEI_one (i := 10) (by kernel_rfl) (by simp only [List.getElem?_toArray, List.getElem?_cons_succ, List.getElem?_cons_zero]; rfl) (fun K' hK => ?_)
    have HH := Lib.hid hH
    clear hH
    have HON := Lib.hid (onto_is g d r A n cap Lk mk mck P p pc Q q qc w3 HM.out HRx.out hmx HPw.out HS1.out HS2.out (by have := HSZ.out; omega) (by have := HSZ.out; omega) HL1.out HL2.out)
    replace HON := Lib.hid (HI3.out ▸ HON.out)
    go_simp
    refine ⟨trivial, ?_⟩
    refine (CallsIn.inRound l (callsIn_wide.2 HON.out)).mono ?_
    rintro e w4 ⟨u', v', rfl, hL, hb⟩
    obtain ⟨DD, hDD⟩ : ∃ DD : RegD, ontoD g d r = DD := ⟨_, rfl⟩
    replace HSN := HSN.out
    rw [hDD] at hL HSN ⊢
    replace HSN := Lib.hid HSN
    clear hDD HON
    have hL := hL.lieE
    obtain ⟨A1, n1, c1', A2, n2', c2', rfl, rfl, -, -, -, -⟩ := hL.slc
    have K4 := Lib.hid (RegsOwn.put keepsLE HI.out.K hb hil hL)
    have fG : ∀ o, w4.frozen? ⟨G, o, none⟩ = false := by
      obtain ⟨_, Fs, h, _⟩ := RegsOwn.later keepsLE HI.out.K hb
      exact h.frozen
    have hG3 : G < w3.heap.size := by have := HB.out.size; omega
    have hcG : ∀ o y, w3.cell? ⟨G, o, none⟩ = some y → w4.cell? ⟨G, o, none⟩ = some y := fun o y h => (hb.cell (p := ⟨G, o, none⟩) hG3).trans h
    obtain ⟨q1, q2, q3, q4, q5, q6, q7, q8⟩ := HH.out
    have n0 := hcG _ _ q4
    have n1 := hcG _ _ q5
    have n2 := hcG _ _ q6
    have n3 := hcG _ _ q7
    have n4 := hcG _ _ q8
    have hI4 := Lib.hid (InvR.later HI.out hb)
    have hBW := Lib.hid (bel_trans HB.out hb)
    refine hK.out _ _ ⟨q1.later hb q1.lt, q2.later hb q2.lt, q3.later hb q3.lt, n0, n1, n2, n3, n4⟩ (fun hH => ?_)
    clear hK K' HH hb hcG q1 q2 q3 q4 q5 q6 q7 q8 hL HI HB
    try simp only [Act.put, List.setIfInBounds_toArray, List.set_cons_zero, List.set_cons_succ]
    refine wpAnyEI_pure (plain_of (fun _ => trivial) (by kernel_rfl)) (i := 11) (v := ?vu11_4) (by simp only [List.getElem?_toArray, List.getElem?_cons_succ, List.getElem?_cons_zero]; rfl) (by kernel_rfl) (by kernel_rfl) (by kernel_rfl) (by exact fun _ _ _ h => h) (by kernel_rfl) (Or.inl ⟨by rfl, ?yu11_4⟩) hH ?_
    case yu11_4 => (intro w' hSw; (try dsimp only at hSw); clear hSw; go_simp; try with_reducible rfl)
    try simp only [Act.put, List.setIfInBounds_toArray, List.set_cons_zero, List.set_cons_succ]
    refine wpAnyEI_last (by kernel_rfl) (by simp only [List.getElem?_toArray, List.getElem?_cons_succ, List.getElem?_cons_zero]; rfl) (by kernel_rfl) (fun K' hK => ?_)
    go_simp
    refine hK.out _ _ ?_
    clear hK K' hH
    try simp only [Act.put, List.setIfInBounds_toArray, List.set_cons_zero, List.set_cons_succ]
    clear n0 n1 n2 n3 n4 fG
    gi_wp2
    refine ⟨KeepsFrom.of_grownBy (grownG5 hBW.out G _ _ _ _ _) (fun j e => by cases e; omega), (KeepC.of_below hBW.out).trans (KeepC.of_turns (turns_row5 w4 G _ _ _ _ _) (fun i e => e)), hI4.out.put (turns_row5 w4 G _ _ _ _ _) hVG (by rw [HSN.out]; exact K4.out) (fun k hk => ?_)⟩
    rcases List.mem_append.1 hk with hk | hk
    · exact hI4.out.all k hk
    · rw [List.mem_singleton] at hk
      rw [hk]
      exact HZ.out
  case done =>
    rintro D' xs W hD rfl hi hK
    have c4 : W.cell? ⟨w.heap.size + 1, 0, none⟩ = some (.slice none 0 0) := hi.R4.cell 0
    have c5 : W.cell? ⟨w.heap.size + 1 + 1, 0, none⟩ = some (.bool false) := hi.R5.cell 0
    have f4 := hi.R4.frozen 0
    have f5 := hi.R5.frozen 0
    have c6 : W.cell? ⟨G + 1, 0, none⟩ = some (.slice (some ⟨G, 0, none⟩) ns ns) := hi.R6.cell 0
    have HI := Lib.hid hi
    have HK := Lib.hid hK
    clear hi hK
    gi_wp2
    have hK1 := (((KeepsOthers.setCell W ⟨w.heap.size + 1, 0, none⟩ (.slice (some ⟨G, 0, none⟩) ns ns)).trans (KeepsOthers.setCell _ ⟨w.heap.size + 1 + 1, 0, none⟩ (.bool true)))).same _ _ HK.out rfl
    refine ⟨by simp, .inl ⟨_, _, rfl, run_takeDeferred hK1, ?_⟩⟩
    have hg := grownBy_putObj' ((W.setCell ⟨w.heap.size + 1, 0, none⟩ (.slice (some ⟨G, 0, none⟩) ns ns)).setCell ⟨w.heap.size + 1 + 1, 0, none⟩ (.bool true)) D' (.deferred none)
    have hk := cellsK_own hg (fun r e => by cases e; exact ⟨_, hK1, rfl⟩)
    refine ⟨_, results_cells2 Tryz.results131 _ _ rfl rfl (load_oneR (hk.cell (cell_set_other (cell_set_self c4) (by omega)))) (load_oneB (hk.cell (cell_set_self (cell_set_other c5 (by omega))))), ?_⟩
    have hrep : replD g ds = (shelves g ds, true) := by
      unfold replD
      rw [HO.out, allAt_true (fun i hi => HI.out.all ⟨i, hi⟩ (List.mem_finRange _))]
      rfl
    have hsl : (shelves g ds).length = ns := by rw [shelves_len]; exact HN.out
    rw [hrep]
    have K1 := HI.out.K
    rw [shI_all] at K1
    have K2 := (RegsOwn.turn keepsLE (RegsOwn.turn keepsLE K1 (turns_cell5 _ (w.heap.size + 1) 0 (.slice (some ⟨G, 0, none⟩) ns ns)) (fun b e => by omega)) (turns_cell5 _ (w.heap.size + 1 + 1) 0 (.bool true)) (fun b e => by omega)).cells hk
    have hB := (turns_cell5 _ (w.heap.size + 1 + 1) 0 (.bool true)).below ((turns_cell5 W (w.heap.size + 1) 0 (.slice (some ⟨G, 0, none⟩) ns ns)).below HI.out.E (fun i e => by omega)) (fun i e => by omega)
    exact ⟨G, ns, by rw [hsl], K2.low hGw, hB.grown hg hB.size (fun k e => by cases e; omega)⟩
  case stop =>
    rintro D' c pre W hD hS ⟨rfl, ho⟩ hK
    gi_wp2
    refine ⟨by simp, .inl ⟨_, _, rfl, run_takeDeferred hK, ?_⟩⟩
    have hg := grownBy_putObj' W D' (.deferred none)
    have hk := cellsK_own hg (fun r e => by cases e; exact ⟨_, hK, rfl⟩)
    obtain ⟨E0, h1, h2, h3, h4⟩ := ho.res
    refine ⟨_, results_cells2 Tryz.results131 _ _ rfl rfl (load_oneR (hk.cell (h1.cell 0))) (load_oneB (hk.cell (h2.cell 0))), ?_⟩
    obtain ⟨k, hk0⟩ := ho.no
    have hrep : replD g ds = ([], false) := by unfold replD; rw [allAt_false k.isLt hk0, Bool.and_false]; rfl
    rw [hrep]
    exact ⟨E0, 0, rfl, (h3.cells hk).low h4, ho.E.grown hg ho.E.size (fun k e => by cases e; omega)⟩
end Go.Proofs.YtjdepjpjjgkmbaaGreat

/- Both Replayed as a law meets them: over a copy of a group and a list of records, read; conditions: the sizes. -/
namespace Go.Proofs.YtjdepjpjjgkmbaaGreat
open Go Go.RowKit

theorem specReplayed8_is {g : GrpD} {ds : List RecD} {w : World} {F0 : Nat → Prop} {C0 : Array Value} {LA : Option Addr} {ln lc : Nat} (h0 : AtG g w F0 (.agg C0)) (h1 : RecsF ds w (· < w.heap.size) LA ln) (hz : totC ds ≤ 1048576) :
    Calls Tryz.prog 74 #[.agg C0, .slice LA ln lc] w (MadeReps AtW (replD g ds).1 (replD g ds).2 w) := by
  obtain ⟨A, n, cap, e0, m0, hr⟩ := h0
  injection e0 with e0
  subst e0
  exact specReplayed_is g ds A n cap LA ln lc w m0 hr.1 h1 hz
theorem replayed8_is {g : GrpD} {ds : List RecD} {w : World} {F0 : Nat → Prop} {C0 : Array Value} {LA : Option Addr} {ln lc : Nat} (h0 : AtG g w F0 (.agg C0)) (h1 : RecsF ds w (· < w.heap.size) LA ln) (hz : totC ds ≤ 1048576) :
    Calls Tryz.prog 131 #[.agg C0, .slice LA ln lc] w (MadeReps LieE (replD g ds).1 (replD g ds).2 w) := by
  obtain ⟨A, n, cap, e0, m0, hr⟩ := h0
  injection e0 with e0
  subst e0
  exact replayed_is g ds A n cap LA ln lc w m0 hr.1 h1 hz
end Go.Proofs.YtjdepjpjjgkmbaaGreat

/- All records of a journal, in one list; a journal that is right: what it and the model answer (written by jour_ok.py); conditions: the sizes. -/
namespace Go.Proofs.YtjdepjpjjgkmbaaGreat
open Go Go.RowKit

/-- A journal whose lists lie somewhere. -/
def AtS9 (d : JourD) (w : World) (F : Nat → Prop) (v : Value) : Prop := ∃ u u', v = .agg #[u, u'] ∧ ListS d.ks w F u ∧ ListS d.ls w F u'
theorem keepsS9 (d : JourD) : Keeps (AtS9 d) := ⟨fun ⟨u, u', e, h1, h2⟩ ht hd => ⟨u, u', e, h1.turn ht hd, h2.turn ht hd⟩, fun ⟨u, u', e, h1, h2⟩ hs => ⟨u, u', e, h1.sub hs, h2.sub hs⟩⟩
theorem LieJ.somewhere {d : JourD} {w : World} {F : Nat → Prop} {v : Value} (h : LieJ d w F v) : AtS9 d w F v := by
  obtain ⟨u, u', F1, F2, e, h1, h2, s1, s2, -⟩ := h
  exact ⟨u, u', e, h1.list.sub s1, h2.list.sub s2⟩
theorem AtS9.at {d : JourD} {w : World} {F : Nat → Prop} {v : Value} (h : AtS9 d w F v) : AtJ d w F v := by
  obtain ⟨u, u', rfl, h1, h2⟩ := h
  obtain ⟨A, c, rfl, m1, r1⟩ := h1.at
  obtain ⟨A', c', rfl, m2, r2⟩ := h2.at
  exact ⟨A, _, c, A', _, c', rfl, m1, m2, r1, r2⟩
theorem totC_app (a b : List RecD) : totC (a ++ b) = totC a + totC b := by
  unfold totC
  rw [List.map_append, List.sum_append]
/-- Whether a journal is right. -/
def jokD (g : GrpD) (d : JourD) : Bool := (replD g (d.ks ++ d.ls)).2
theorem allAt_of {g : GrpD} {ds : List RecD} (h : allAt g ds = true) : ∀ i, i < ds.length → isAt g ds i = true := fun i hi => by
  cases e : isAt g ds i
  · rw [allAt_false hi e] at h
    cases h
  · rfl
theorem rok_no {g : GrpD} {d : RecD} (h : rokD g d = true) : 1 ≤ d.r1 ∧ d.r1 ≤ 400 := by
  simp only [rokD, rokB, Bool.and_eq_true, inB, decide_eq_true_eq] at h
  omega
theorem repl_len400 {g : GrpD} {ds : List RecD} (h : (replD g ds).2 = true) : ds.length ≤ 400 := by
  unfold replD at h
  split at h
  · rename_i hc
    rw [Bool.and_eq_true] at hc
    rcases Nat.eq_zero_or_pos ds.length with h0 | h0
    · omega
    · have h1 := allAt_of hc.2 (ds.length - 1) (by omega)
      rw [isAt_lt (by omega), Bool.and_eq_true, decide_eq_true_eq] at h1
      have h2 := rok_no h1.2
      omega
  · cases h
/-- The list of a row of one's own, two lists one behind the other. -/
theorem row_two {w w' : World} {u : Value} {ms ms' : List (RecD × Value)} {ks ls : List RecD} {F : Nat → Prop} {t : TypeId} (hm : ms.map (·.1) = ks) (hm' : ms'.map (·.1) = ls) (h : w'.ownsRow w.heap.size t 9 u (ks.length + ls.length) (flatC ms ++ flatC ms')) (h1 : CertsF w F ms) (h2 : CertsF w F ms') (hb : Below w.heap.size w w') : ListS (ks ++ ls) w' (fun b => F b ∨ w.heap.size ≤ b) u := by
  have hc := ((h1.app h2).later hb).sub (F' := fun b => F b ∨ w.heap.size ≤ b) (fun b hb => .inl hb)
  have e : (ms ++ ms').map (·.1) = ks ++ ls := by rw [List.map_append, hm, hm']
  rw [← flatC_app] at h
  rw [← e]
  exact row_list h (by rw [← List.length_map (f := fun x : RecD × Value => x.1), e, List.length_append]) hc (fun b hb _ => .inr hb)

set_option maxRecDepth 100000 in
set_option maxHeartbeats 4000000 in
theorem l10All_is {d : JourD} {w : World} {F : Nat → Prop} {C : Array Value} (h : AtS9 d w F (.agg C)) (hs : d.sz ≤ 2097152) :
    Calls Tryz.prog 72 #[.agg C] w fun e w' => ∃ u, e = .returned u ∧ ListS (d.ks ++ d.ls) w' (· < w'.heap.size) u ∧ Below w.heap.size w w' := by
  obtain ⟨i0, hi0, hz0, hz1, hz2⟩ := info_parts Tryz.infoRecI
  obtain ⟨u, u', e, h1, h2⟩ := h
  injection e with e
  subst e
  obtain ⟨ms, hm, hc, hx⟩ := h1.lt.src
  obtain ⟨ms', hm', hc', hx'⟩ := h2.lt.src
  have hl1 : d.ks.length ≤ 2097152 := by have := totC_len d.ks; unfold JourD.sz at hs; omega
  have hl2 : d.ks.length + d.ls.length ≤ 2097152 := by have := totC_len d.ks; have := totC_len d.ls; unfold JourD.sz at hs; omega
  have hf := Lib.hid hm
  have hf' := Lib.hid hm'
  have HC := Lib.hid hc
  have HC' := Lib.hid hc'
  have hE : ∃ K, flatC ms = K := ⟨_, rfl⟩
  obtain ⟨X, hX⟩ := hE
  obtain ⟨X', hX'⟩ : ∃ K, flatC ms' = K := ⟨_, rfl⟩
  rw [hX] at hx
  rw [hX'] at hx'
  have HX := Lib.hid hX
  have HX' := Lib.hid hX'
  have hb0 := bel_alloc w (.cells #[u, u'] 29)
  have D := Box.new w 29 #[u, u']
  have S1 := hx.later hb0
  have S2 := hx'.later hb0
  clear hm hm' hc hc' hx hx' hX hX' h1 h2
  go_enter Tryz.func72, Tryz.ntmps72
  go_upto_region 1 with fail
  generalize (w.alloc _ : World) = w0 at hb0 D S1 S2 ⊢
  have hw0 := hb0.size
  have HB := Below.refl w0.heap.size w0
  refine wp_region_sink 8 (fun w' => Box w' w.heap.size 29 #[u, u']) (by kernel_rfl) D (fun hH => ?_)
  have hb := (Below.refl w0.heap.size w0).drew
  replace HB := bel_trans HB hb
  replace D := D.later hb D.lt
  clear hb
  generalize w0.drew = w3 at D HB hH ⊢
  refine wpAnyE_pure (i := 1) (v := ?vp1) (by simp only [List.getElem?_toArray, List.getElem?_cons_succ, List.getElem?_cons_zero]; rfl) (by kernel_rfl) (by kernel_rfl) (by kernel_rfl) (by exact fun _ _ _ h => h) (by kernel_rfl) (Or.inl ⟨by rfl, ?yp1⟩) hH ?rp1
  case yp1 => (intro w' hSw; (try dsimp only at hSw); go_simp; try with_reducible rfl)
  try simp only [Act.put, List.setIfInBounds_toArray, List.set_cons_zero, List.set_cons_succ]
  refine wpAnyE_takeS (i := 2) (v := u) (by simp only [List.getElem?_toArray, List.getElem?_cons_succ, List.getElem?_cons_zero]; rfl) (by kernel_rfl) (by kernel_rfl) (by kernel_rfl) (by exact fun _ _ _ h => h) (by kernel_rfl) ?yc2 hH ?_
  case yc2 => exact .inl ⟨(by first | rfl | simp [Region.wanted, yielded] | (simp [Region.wanted, yielded, Act.put] <;> omega)), fun w' hSw => by (try dsimp only at hSw); have hc := (Box.two hSw).1; go_simp; try with_reducible rfl⟩
  try simp only [Act.put, List.setIfInBounds_toArray, List.set_cons_zero, List.set_cons_succ]
  refine wpAnyE_pure (i := 4) (v := ?vp4) (by simp only [List.getElem?_toArray, List.getElem?_cons_succ, List.getElem?_cons_zero]; rfl) (by kernel_rfl) (by kernel_rfl) (by kernel_rfl) (by exact fun _ _ _ h => h) (by kernel_rfl) (Or.inl ⟨by rfl, ?yp4⟩) hH ?rp4
  case yp4 => (intro w' hSw; (try dsimp only at hSw); go_simp; try with_reducible rfl)
  try simp only [Act.put, List.setIfInBounds_toArray, List.set_cons_zero, List.set_cons_succ]
  refine wpAnyE_takeS (i := 5) (v := u') (by simp only [List.getElem?_toArray, List.getElem?_cons_succ, List.getElem?_cons_zero]; rfl) (by kernel_rfl) (by kernel_rfl) (by kernel_rfl) (by exact fun _ _ _ h => h) (by kernel_rfl) ?yc5 hH ?_
  case yc5 => exact .inl ⟨(by first | rfl | simp [Region.wanted, yielded] | (simp [Region.wanted, yielded, Act.put] <;> omega)), fun w' hSw => by (try dsimp only at hSw); have hc := (Box.two hSw).2; go_simp; try with_reducible rfl⟩
  try simp only [Act.put, List.setIfInBounds_toArray, List.set_cons_zero, List.set_cons_succ]
  refine wpAnyE_one (i := 0) (by kernel_rfl) (by simp only [List.getElem?_toArray, List.getElem?_cons_zero]; rfl) (fun K hK => ?_)
  go_simp
  have hn := bel_alloc w3 (.cells #[] 46)
  have O3 := own_new w3 46 9
  have hw3 := HB.size
  have hDl := D.lt
  replace D := D.alloc (.cells #[] 46)
  replace HB := bel_trans HB hn
  clear hH
  refine hK.out _ _ D (fun hH => ?_)
  clear hK K
  try simp only [Act.put, List.setIfInBounds_toArray, List.set_cons_zero, List.set_cons_succ]
  have hz3 : w3.heap.size < (w3.alloc (.cells #[] 46)).heap.size := by simp
  clear hn
  generalize (w3.alloc _ : World) = w5 at D HB O3 hH hz3 hDl ⊢
  refine wpAnyE_one (i := 3) (by kernel_rfl) (by simp only [List.getElem?_toArray, List.getElem?_cons_succ, List.getElem?_cons_zero]; rfl) (fun K hK => ?_)
  refine step_append_srcN (by rfl) _ _ _ (by rfl) w3.heap.size 46 i0 _ 9 88 Tryz.underlying27 hi0 hz0 hz1 hz2 rfl (by omega) (.slice (some ⟨w3.heap.size, 0, none⟩) 0 0) 0 [] (by rfl) O3 (by simp) _ d.ks.length X (by rfl) (S1.later HB) d.ks.length X (Nat.zero_add _) (List.nil_append _) (by unfold maxLen; omega) (by omega) (by omega) ?_
  intro g1 cap1 w4 hown4 hgrow hbg hlg
  replace hgrow : w5.grownBy w4 (some w3.heap.size) := hgrow
  have D4 := D.kept hgrow (by intro e; injection e with e; omega)
  have HB4 := bel_grown HB hgrow (by omega)
  clear hH
  refine hK.out _ _ D4 (fun hH => ?_)
  clear hK K
  try simp only [Act.put, List.setIfInBounds_toArray, List.set_cons_zero, List.set_cons_succ]
  clear O3 hgrow D HB
  refine wpAnyE_one (i := 6) (by kernel_rfl) (by simp only [List.getElem?_toArray, List.getElem?_cons_succ, List.getElem?_cons_zero]; rfl) (fun K hK => ?_)
  refine step_append_srcN (by rfl) _ _ _ (by rfl) w3.heap.size 46 i0 _ 9 88 Tryz.underlying27 hi0 hz0 hz1 hz2 rfl (by omega) (.slice (some ⟨g1, 0, none⟩) d.ks.length cap1) d.ks.length X (by rfl) hown4 (by simp) _ d.ls.length X' (by rfl) (S2.later HB4) (d.ks.length + d.ls.length) (X ++ X') rfl rfl (by unfold maxLen; omega) (by omega) (by omega) ?_
  intro g2 cap2 w6 hown6 hgrow hbg2 hlg2
  replace hgrow : w4.grownBy w6 (some g1) := hgrow
  have D6 := D4.kept hgrow (by intro e; injection e with e; omega)
  have HB6 := bel_grown HB4 hgrow (by omega)
  clear hH
  refine hK.out _ _ D6 (fun hH => ?_)
  clear hK K
  try simp only [Act.put, List.setIfInBounds_toArray, List.set_cons_zero, List.set_cons_succ]
  clear hown4 hgrow D4 HB4
  refine wpAnyE_end (i := 7) (by kernel_rfl) (by simp only [List.getElem?_toArray, List.getElem?_cons_succ, List.getElem?_cons_zero]; rfl) (by kernel_rfl) (fun K hK => ?_)
  go_simp
  refine hK.out _ _ D6 ?_
  clear hK K hH
  try simp only [Act.put, List.setIfInBounds_toArray, List.set_cons_zero, List.set_cons_succ]
  have HO := Lib.hid hown6
  have E6 := bel_trans hb0 HB6
  clear hown6 D6
  go_wp2
  go_ret
  refine ⟨_, rfl, ?_, E6⟩
  have HOW := HO.out
  rw [← HX.out, ← HX'.out] at HOW
  have hL := row_two hf.out hf'.out (ownLow HOW hw3) (HC.out.later hb0) (HC'.out.later hb0) HB6
  exact hL.lt.sub (fun b hb => hb.2)
set_option maxRecDepth 100000 in
set_option maxHeartbeats 4000000 in
theorem specJournalOk_is {g : GrpD} {d : JourD} {w : World} {F0 F1 : Nat → Prop} {C0 C1 : Array Value} {z : Bool} (h0 : AtG g w F0 (.agg C0)) (h1 : AtS9 d w F1 (.agg C1)) (hs : d.sz ≤ 1048576) (hz : jokD g d = z) :
    Calls Tryz.prog 18 #[.agg C0, .agg C1] w fun e w' => e = .returned (.bool z) ∧ Below w.heap.size w w' := by
  have HZ := Lib.hid hz
  have hst : totC (d.ks ++ d.ls) ≤ 1048576 := by rw [totC_app]; exact hs
  have J0 := Lib.hid (sizeG h0).2
  have J1 := Lib.hid (show (Tryz.prog.info? 29).map (·.size) = some C1.size from (sizeJ h1.at).2)
  have hb0 := bel_trans (bel_alloc w (.cells C0 26)) (bel_alloc _ (.cells C1 29))
  have G := (Box.new w 26 C0).alloc (.cells C1 29)
  have J := Box.new (w.alloc (.cells C0 26)) 29 C1
  simp only [World.size_alloc] at J
  have H0 := Lib.hid ((keepsG g).later h0 hb0)
  have H1 := (keepsS9 d).later h1 hb0
  clear h0 h1 hz
  go_enter Tryz.func18, Tryz.ntmps18
  go_upto_region 1 with fail
  generalize ((w.alloc _).alloc _ : World) = w0 at hb0 G J H0 H1 ⊢
  go_wp2_with (refine wpList_load_box 29 _ rfl (w.heap.size + 1) rfl 29 C1 J _ Tryz.underlying29 rfl J1.out (by first | rfl | simp [Region.wanted, yielded] | (simp [Region.wanted, yielded, Act.put] <;> omega)) ?_)
  refine (l10All_is H1 (by omega)).mono ?_
  rintro e w1 ⟨u, rfl, hL, hb⟩
  replace G := G.later hb G.lt
  have K0 := Lib.hid ((keepsG g).later H0.out hb)
  have E := bel_trans hb0 hb
  clear hb hb0 H0 H1 J
  obtain ⟨A, c, rfl, hm, hr⟩ := hL.at
  generalize hln : (d.ks ++ d.ls).length = ln at hm hr ⊢
  clear hL
  have HR := Lib.hid hr
  clear hr
  go_wp2_with (refine wpList_load_box 26 _ rfl (w.heap.size) rfl 26 C0 G _ Tryz.underlying26 rfl J0.out (by first | rfl | simp [Region.wanted, yielded] | (simp [Region.wanted, yielded, Act.put] <;> omega)) ?_)
  refine (specReplayed8_is K0.out HR.out hst).mono ?_
  rintro e w2 ⟨GG, cg, rfl, -, hb⟩
  have E2 := bel_trans E hb
  clear hb E G
  have hok : (replD g (d.ks ++ d.ls)).2 = z := HZ.out
  rw [hok]
  cases z
  · go_wp2
    go_ret
    exact ⟨rfl, E2⟩
  · have hl4 := repl_len400 hok
    rw [hln] at hl4
    have hle : ((ln : Nat) : Int) ≤ 400 := by omega
    clear hok
    go_wp2
    go_ret
    exact ⟨rfl, E2⟩
set_option maxRecDepth 100000 in
set_option maxHeartbeats 4000000 in
theorem regs_is {g : GrpD} {d : JourD} {w : World} {F0 F1 : Nat → Prop} {C0 C1 : Array Value} (h0 : AtG g w F0 (.agg C0)) (h1 : AtS9 d w F1 (.agg C1)) (hs : d.sz ≤ 1048576) {rr : List RegD × Bool} (hrr : replD g (d.ks ++ d.ls) = rr) :
    Calls Tryz.prog 73 #[.agg C1, .agg C0] w (MadeReps LieE rr.1 rr.2 w) := by
  have HRR := Lib.hid hrr
  clear hrr
  have hst : totC (d.ks ++ d.ls) ≤ 1048576 := by rw [totC_app]; exact hs
  have J0 := Lib.hid (sizeG h0).2
  have hb0 := bel_trans (bel_alloc w (.cells C1 29)) (bel_alloc _ (.cells C0 26))
  have J := (Box.new w 29 C1).alloc (.cells C0 26)
  have G := Box.new (w.alloc (.cells C1 29)) 26 C0
  simp only [World.size_alloc] at G
  have H0 := Lib.hid ((keepsG g).later h0 hb0)
  have H1 := (keepsS9 d).later h1 hb0
  clear h0 h1
  obtain ⟨u, u', e, h2, h3⟩ := H1
  injection e with e
  subst e
  obtain ⟨ms, hm, hc, hx⟩ := h2.lt.src
  obtain ⟨ms', hm', hc', hx'⟩ := h3.lt.src
  obtain ⟨A1, c1, rfl, -, -⟩ := h2.at
  obtain ⟨A2, c2, rfl, -, -⟩ := h3.at
  have hl2 : d.ks.length + d.ls.length ≤ 2097152 := by have := totC_len d.ks; have := totC_len d.ls; unfold JourD.sz at hs; omega
  have hf := Lib.hid hm
  have hf' := Lib.hid hm'
  have HC := Lib.hid hc
  have HC' := Lib.hid hc'
  obtain ⟨X, hX⟩ : ∃ K, flatC ms = K := ⟨_, rfl⟩
  obtain ⟨X', hX'⟩ : ∃ K, flatC ms' = K := ⟨_, rfl⟩
  rw [hX] at hx
  rw [hX'] at hx'
  have HX := Lib.hid hX
  have HX' := Lib.hid hX'
  clear hm hm' hc hc' hX hX' h2 h3
  go_enter Tryz.func73, Tryz.ntmps73
  go_upto_region 1 with fail
  generalize ((w.alloc _).alloc _ : World) = w0 at hb0 G J H0 HC HC' hx hx' ⊢
  have hw0 := hb0.size
  have HB := Below.refl w0.heap.size w0
  refine wp_region_sink 12 (fun w' => Box w' (w.heap.size + 1) 26 C0 ∧ Box w' w.heap.size 29 #[.slice A1 d.ks.length c1, .slice A2 d.ls.length c2]) (by kernel_rfl) ⟨G, J⟩ (fun hH => ?_)
  have hb := (Below.refl w0.heap.size w0).drew
  replace HB := bel_trans HB hb
  replace G := G.later hb G.lt
  replace J := J.later hb J.lt
  clear hb
  generalize w0.drew = w3 at G J HB hH ⊢
  refine wpAnyE_takeS (i := 0) (v := .agg C0) (by simp only [List.getElem?_toArray, List.getElem?_cons_zero]; rfl) (by kernel_rfl) (by kernel_rfl) (by kernel_rfl) (by exact fun _ _ _ h => h) (by kernel_rfl) ?yg0 hH ?_
  case yg0 => exact yields_box 26 _ rfl ((w.heap.size + 1)) rfl 26 C0 (fun _ h => h.1) _ Tryz.underlying26 rfl J0.out (by first | rfl | simp [Region.wanted, yielded] | (simp [Region.wanted, yielded, Act.put] <;> omega))
  try simp only [Act.put, List.setIfInBounds_toArray, List.set_cons_zero, List.set_cons_succ]
  refine wpAnyE_pure (i := 1) (v := ?vp1) (by simp only [List.getElem?_toArray, List.getElem?_cons_succ, List.getElem?_cons_zero]; rfl) (by kernel_rfl) (by kernel_rfl) (by kernel_rfl) (by exact fun _ _ _ h => h) (by kernel_rfl) (Or.inl ⟨by rfl, ?yp1⟩) hH ?rp1
  case yp1 => (intro w' hSw; (try dsimp only at hSw); go_simp; try with_reducible rfl)
  try simp only [Act.put, List.setIfInBounds_toArray, List.set_cons_zero, List.set_cons_succ]
  refine wpAnyE_takeS (i := 2) (v := (.slice A1 d.ks.length c1)) (by simp only [List.getElem?_toArray, List.getElem?_cons_succ, List.getElem?_cons_zero]; rfl) (by kernel_rfl) (by kernel_rfl) (by kernel_rfl) (by exact fun _ _ _ h => h) (by kernel_rfl) ?yc2 hH ?_
  case yc2 => exact .inl ⟨(by first | rfl | simp [Region.wanted, yielded] | (simp [Region.wanted, yielded, Act.put] <;> omega)), fun w' hSw => by (try dsimp only at hSw); have hc := (Box.two hSw.2).1; go_simp; try with_reducible rfl⟩
  try simp only [Act.put, List.setIfInBounds_toArray, List.set_cons_zero, List.set_cons_succ]
  refine wpAnyE_pure (i := 3) (v := ?vp3) (by simp only [List.getElem?_toArray, List.getElem?_cons_succ, List.getElem?_cons_zero]; rfl) (by kernel_rfl) (by kernel_rfl) (by kernel_rfl) (by exact fun _ _ _ h => h) (by kernel_rfl) (Or.inl ⟨by rfl, ?yp3⟩) hH ?rp3
  case yp3 => (intro w' hSw; (try dsimp only at hSw); go_simp; try with_reducible rfl)
  try simp only [Act.put, List.setIfInBounds_toArray, List.set_cons_zero, List.set_cons_succ]
  refine wpAnyE_takeS (i := 4) (v := (.slice A2 d.ls.length c2)) (by simp only [List.getElem?_toArray, List.getElem?_cons_succ, List.getElem?_cons_zero]; rfl) (by kernel_rfl) (by kernel_rfl) (by kernel_rfl) (by exact fun _ _ _ h => h) (by kernel_rfl) ?yc4 hH ?_
  case yc4 => exact .inl ⟨(by first | rfl | simp [Region.wanted, yielded] | (simp [Region.wanted, yielded, Act.put] <;> omega)), fun w' hSw => by (try dsimp only at hSw); have hc := (Box.two hSw.2).2; go_simp; try with_reducible rfl⟩
  try simp only [Act.put, List.setIfInBounds_toArray, List.set_cons_zero, List.set_cons_succ]
  refine wpAnyE_one (i := 5) (by kernel_rfl) (by simp only [List.getElem?_toArray, List.getElem?_cons_succ, List.getElem?_cons_zero]; rfl) (fun K hK => ?_)
  go_simp
  have hn := bel_alloc w3 (.cells #[.slice A1 d.ks.length c1, .slice A2 d.ls.length c2] 27)
  have Q := Box.new w3 27 #[.slice A1 d.ks.length c1, .slice A2 d.ls.length c2]
  replace G := G.alloc (.cells #[.slice A1 d.ks.length c1, .slice A2 d.ls.length c2] 27)
  replace J := J.alloc (.cells #[.slice A1 d.ks.length c1, .slice A2 d.ls.length c2] 27)
  replace HB := bel_trans HB hn
  clear hn
  clear hH
  refine hK.out _ _ ⟨G, J⟩ (fun hH => ?_)
  clear hK K
  try simp only [Act.put, List.setIfInBounds_toArray, List.set_cons_zero, List.set_cons_succ]
  generalize w3.heap.size = q at Q ⊢
  generalize (w3.alloc _ : World) = w5 at G J HB Q hH ⊢
  refine wpAnyE_one (i := 6) (by kernel_rfl) (by simp only [List.getElem?_toArray, List.getElem?_cons_succ, List.getElem?_cons_zero]; rfl) (fun K hK => ?_)
  go_simp
  refine (concatRec_is _ _ _ _ _ X X' w5 hl2 Q (hx.later HB) (hx'.later HB)).mono ?_
  rintro e w6 ⟨v, rfl, hown, hb⟩
  replace G := G.later hb G.lt
  replace J := J.later hb J.lt
  have hw5 := HB.size
  have HB2 := bel_trans HB hb
  rw [← HX.out, ← HX'.out] at hown
  have hL := row_two hf.out hf'.out (ownLow hown hw5) HC.out HC'.out HB2
  have hL2 := hL.lt.sub (F' := (· < w6.heap.size)) (fun b hb => hb.2)
  obtain ⟨A, c, rfl, hmx, hr⟩ := hL2.at
  clear hL hL2 hown Q hb HB
  clear hH
  refine hK.out _ _ ⟨G, J⟩ (fun hH => ?_)
  clear hK K
  try simp only [Act.put, List.setIfInBounds_toArray, List.set_cons_zero, List.set_cons_succ]
  generalize (d.ks ++ d.ls).length = ln at hmx hr ⊢
  refine wpAnyE_one (i := 7) (by kernel_rfl) (by simp only [List.getElem?_toArray, List.getElem?_cons_succ, List.getElem?_cons_zero]; rfl) (fun K hK => ?_)
  go_simp
  have K0 := (keepsG g).later H0.out HB2
  refine (replayed8_is K0 hr hst).mono ?_
  rintro e w7 ⟨GG, cg, rfl, hO, hb⟩
  replace G := G.later hb G.lt
  replace J := J.later hb J.lt
  have E := bel_trans (bel_trans hb0 HB2) hb
  have O := Lib.hid (hO.low (bel_trans hb0 HB2).size)
  clear hb HB2 hr K0 hO
  rw [HRR.out] at O ⊢
  clear hH
  refine hK.out _ _ ⟨G, J⟩ (fun hH => ?_)
  clear hK K
  try simp only [Act.put, List.setIfInBounds_toArray, List.set_cons_zero, List.set_cons_succ]
  refine wpAnyE_pure (i := 8) (v := ?vq8) (by simp only [List.getElem?_toArray, List.getElem?_cons_succ, List.getElem?_cons_zero]; rfl) (by kernel_rfl) (by kernel_rfl) (by kernel_rfl) (by exact fun _ _ _ h => h) (by kernel_rfl) (Or.inl ⟨by rfl, ?yq8⟩) hH ?rq8
  case yq8 => (intro w' hSw; (try dsimp only at hSw); go_simp; try with_reducible rfl)
  try simp only [Act.put, List.setIfInBounds_toArray, List.set_cons_zero, List.set_cons_succ]
  refine wpAnyE_pure (i := 9) (v := ?vq9) (by simp only [List.getElem?_toArray, List.getElem?_cons_succ, List.getElem?_cons_zero]; rfl) (by kernel_rfl) (by kernel_rfl) (by kernel_rfl) (by exact fun _ _ _ h => h) (by kernel_rfl) (Or.inl ⟨by rfl, ?yq9⟩) hH ?rq9
  case yq9 => (intro w' hSw; (try dsimp only at hSw); go_simp; try with_reducible rfl)
  try simp only [Act.put, List.setIfInBounds_toArray, List.set_cons_zero, List.set_cons_succ]
  refine wpAnyE_pure (i := 10) (v := ?vq10) (by simp only [List.getElem?_toArray, List.getElem?_cons_succ, List.getElem?_cons_zero]; rfl) (by kernel_rfl) (by kernel_rfl) (by kernel_rfl) (by exact fun _ _ _ h => h) (by kernel_rfl) (Or.inl ⟨by rfl, ?yq10⟩) hH ?rq10
  case yq10 => (intro w' hSw; (try dsimp only at hSw); go_simp; try with_reducible rfl)
  try simp only [Act.put, List.setIfInBounds_toArray, List.set_cons_zero, List.set_cons_succ]
  refine wpAnyE_end (i := 11) (by kernel_rfl) (by simp only [List.getElem?_toArray, List.getElem?_cons_succ, List.getElem?_cons_zero]; rfl) (by kernel_rfl) (fun K hK => ?_)
  go_simp
  refine hK.out _ _ ⟨G, J⟩ ?_
  clear hK K hH G J
  try simp only [Act.put, List.setIfInBounds_toArray, List.set_cons_zero, List.set_cons_succ]
  go_wp2
  exact bodyPost_ret (v := .tuple #[.slice (some ⟨GG, 0, none⟩) rr.1.length cg, .bool rr.2]) (by simp [results, Tryz.results73, go_sem]) rfl ⟨_, _, rfl, O.out, E⟩
set_option maxRecDepth 100000 in
set_option maxHeartbeats 4000000 in
theorem journalOk_is {g : GrpD} {d : JourD} {w : World} {F0 F1 : Nat → Prop} {C0 C1 : Array Value} {z : Bool} (h0 : AtG g w F0 (.agg C0)) (h1 : AtS9 d w F1 (.agg C1)) (hs : d.sz ≤ 1048576) (hz : jokD g d = z) :
    Calls Tryz.prog 17 #[.agg C0, .agg C1] w fun e w' => e = .returned (.bool z) ∧ Below w.heap.size w w' := by
  have HZ := Lib.hid hz
  have hst : totC (d.ks ++ d.ls) ≤ 1048576 := by rw [totC_app]; exact hs
  have J0 := Lib.hid (sizeG h0).2
  have J1 := Lib.hid (show (Tryz.prog.info? 29).map (·.size) = some C1.size from (sizeJ h1.at).2)
  have hb0 := bel_trans (bel_alloc w (.cells C0 26)) (bel_alloc _ (.cells C1 29))
  have G := (Box.new w 26 C0).alloc (.cells C1 29)
  have J := Box.new (w.alloc (.cells C0 26)) 29 C1
  simp only [World.size_alloc] at J
  have H0 := Lib.hid ((keepsG g).later h0 hb0)
  have H1 := (keepsS9 d).later h1 hb0
  clear h0 h1 hz
  go_enter Tryz.func17, Tryz.ntmps17
  go_upto_region 1 with fail
  generalize ((w.alloc _).alloc _ : World) = w0 at hb0 G J H0 H1 ⊢
  go_wp2_with (first | (refine wpList_load_box 29 _ rfl (w.heap.size + 1) rfl 29 C1 J _ Tryz.underlying29 rfl J1.out (by first | rfl | simp [Region.wanted, yielded] | (simp [Region.wanted, yielded, Act.put] <;> omega)) ?_) | (refine wpList_load_box 26 _ rfl (w.heap.size) rfl 26 C0 G _ Tryz.underlying26 rfl J0.out (by first | rfl | simp [Region.wanted, yielded] | (simp [Region.wanted, yielded, Act.put] <;> omega)) ?_))
  refine (regs_is H0.out H1 hs rfl).mono ?_
  rintro e w2 ⟨GG, cg, rfl, -, hb⟩
  have E := bel_trans hb0 hb
  clear hb hb0 H0 H1 J G
  rw [show (replD g (d.ks ++ d.ls)).2 = z from HZ.out]
  generalize (replD g (d.ks ++ d.ls)).1 = rs
  go_wp2
  go_ret
  exact ⟨rfl, E⟩

end Go.Proofs.YtjdepjpjjgkmbaaGreat

/- The laws' sizes, copies and comparisons of journals as data; conditions: the sizes. -/
namespace Go.Proofs.YtjdepjpjjgkmbaaGreat
open Go Go.RowKit

theorem sz_J {d : JourD} {w : World} {F : Nat → Prop} {C : Array Value} {L : Int} (h : AtJ d w F (.agg C)) (h0 : 0 ≤ L) (h1 : L ≤ 1048576) :
    Calls Tryz.prog 25 #[.agg C, .int .i64 L] w fun e w' => Left L d.sz e ∧ Below w.heap.size w w' := by
  obtain ⟨A, n, c, A', n', c', e, hm, hm', hr, hr'⟩ := h
  injection e with e
  subst e
  have hb0 := bel_alloc w (.cells #[.slice A n c, .slice A' n' c'] 50)
  have D := Box.new w 50 #[.slice A n c, .slice A' n' c']
  have H := Lib.hid (hr.later hb0)
  have H' := Lib.hid (hr'.later hb0)
  have HM := Lib.hid hm
  have HM' := Lib.hid hm'
  clear hr hr' hm hm'
  have hz : (d.sz : Int) = totC d.ks + totC d.ls := by unfold JourD.sz; omega
  go_enter Tryz.func25, Tryz.ntmps25
  go_upto_region 1 with fail
  generalize (w.alloc _ : World) = w0 at hb0 D H H' ⊢
  obtain ⟨d0, d1⟩ := D.two
  go_wp2_with fail
  refine (sz_CS H.out HM.out h0 h1).mono ?_
  rintro e w1 ⟨⟨u, rfl, hle, hgt⟩, hb⟩
  replace D := D.later hb D.lt
  have E := bel_trans hb0 hb
  have HR := Lib.hid (H'.out.later hb)
  clear hb hb0 d0 d1
  obtain ⟨d0, d1⟩ := D.two
  rcases Int.lt_or_le L (totC d.ks : Int) with hs | hs
  · have hu := hgt hs
    clear hle hgt
    go_wp2
    go_ret
    exact ⟨⟨-1, rfl, fun h => absurd h (by omega), fun _ => by omega⟩, E⟩
  · have hu := hle hs
    clear hle hgt
    subst hu
    have hn : ¬ (L - (totC d.ks : Int) < 0) := by omega
    go_wp2_with fail
    refine (sz_CS HR.out HM'.out (L := L - (totC d.ks : Int)) (by omega) (by omega)).mono ?_
    rintro e w2 ⟨⟨u, rfl, hle, hgt⟩, hb⟩
    have E2 := bel_trans E hb
    clear E hb d0 d1 D
    rcases Int.lt_or_le (L - (totC d.ks : Int)) (totC d.ls : Int) with hs' | hs'
    · have hu := hgt hs'
      clear hle hgt
      go_wp2
      go_ret
      exact ⟨⟨-1, rfl, fun h => absurd h (by omega), fun _ => by omega⟩, E2⟩
    · have hu := hle hs'
      clear hle hgt
      subst hu
      have hn2 : ¬ (L - (totC d.ks : Int) - (totC d.ls : Int) < 0) := by omega
      go_wp2
      go_ret
      exact ⟨⟨_, rfl, fun _ => by omega, fun h => absurd h (by omega)⟩, E2⟩
theorem eq_J {d : JourD} {w : World} {F F' : Nat → Prop} {C C' : Array Value} (h : AtJ d w F (.agg C)) (h' : AtJ d w F' (.agg C')) (hs : d.sz ≤ 1048576) :
    Calls Tryz.prog 29 #[.agg C, .agg C'] w fun e w' => e = .returned (.bool true) ∧ Below w.heap.size w w' := by
  obtain ⟨A, n, c, A', n', c', e, hm, hm', hr, hr'⟩ := h
  obtain ⟨B, p, q, B', p', q', e', -, -, hs1, hs2⟩ := h'
  injection e with e
  injection e' with e'
  subst e e'
  obtain rfl : n = p := hr.1.symm.trans hs1.1
  obtain rfl : n' = p' := hr'.1.symm.trans hs2.1
  have hz1 : totC d.ks ≤ 1048576 := by unfold JourD.sz at hs; omega
  have hz2 : totC d.ls ≤ 1048576 := by unfold JourD.sz at hs; omega
  have hb0 := bel_trans (bel_alloc w (.cells #[.slice A n c, .slice A' n' c'] 29)) (bel_alloc _ (.cells #[.slice B n q, .slice B' n' q'] 29))
  have D := (Box.new w 29 #[.slice A n c, .slice A' n' c']).alloc (.cells #[.slice B n q, .slice B' n' q'] 29)
  have X := Box.new (w.alloc (.cells #[.slice A n c, .slice A' n' c'] 29)) 29 #[.slice B n q, .slice B' n' q']
  simp only [World.size_alloc] at X
  have H1 := Lib.hid (hr.later hb0)
  have H2 := Lib.hid (hr'.later hb0)
  have H3 := Lib.hid (hs1.later hb0)
  have H4 := Lib.hid (hs2.later hb0)
  clear hr hr' hs1 hs2 hm hm' hs
  go_enter Tryz.func29, Tryz.ntmps29
  go_upto_region 1 with fail
  generalize ((w.alloc _).alloc _ : World) = w0 at hb0 D X H1 H2 H3 H4 ⊢
  obtain ⟨d0, d1⟩ := D.two
  obtain ⟨x0, x1⟩ := X.two
  go_wp2_with fail
  refine (eq_CS H1.out H3.out hz1).mono ?_
  rintro e w1 ⟨rfl, hb⟩
  replace D := D.later hb D.lt
  replace X := X.later hb X.lt
  have E := bel_trans hb0 hb
  have K2 := Lib.hid (H2.out.later hb)
  have K4 := Lib.hid (H4.out.later hb)
  clear hb hb0 d0 d1 x0 x1 H1 H2 H3 H4
  obtain ⟨d0, d1⟩ := D.two
  obtain ⟨x0, x1⟩ := X.two
  go_wp2_with fail
  refine (eq_CS K2.out K4.out hz2).mono ?_
  rintro e w2 ⟨rfl, hb⟩
  have E2 := bel_trans E hb
  clear hb E d0 d1 x0 x1 D X
  go_wp2
  go_ret
  exact ⟨rfl, E2⟩
theorem to_J {d : JourD} {w : World} {F : Nat → Prop} {C : Array Value} (h : AtJ d w F (.agg C)) (hs : d.sz ≤ 1048576) : Calls Tryz.prog 27 #[.agg C] w (Copied (LieJ d) w) := by
  obtain ⟨A, n, c, A', n', c', e, hm, hm', hr, hr'⟩ := h
  injection e with e
  subst e
  have hz1 : totC d.ks ≤ 1048576 := by unfold JourD.sz at hs; omega
  have hz2 : totC d.ls ≤ 1048576 := by unfold JourD.sz at hs; omega
  have hn1 : n ≤ 1048576 := by have := totC_rest d.ks 0; rw [totC_zero] at this; have := hr.1; omega
  have hn2 : n' ≤ 1048576 := by have := totC_rest d.ls 0; rw [totC_zero] at this; have := hr'.1; omega
  have HL := Lib.hid hr.1
  have HL' := Lib.hid hr'.1
  have D := ((Box.new w 50 #[.slice A n c, .slice A' n' c']).alloc (.cells #[.slice none 0 0, .slice none 0 0] 29)).alloc (.cells #[.slice none 0 0, .slice none 0 0] 29)
  have X := (Box.new (w.alloc (.cells #[.slice A n c, .slice A' n' c'] 50)) 29 #[.slice none 0 0, .slice none 0 0]).alloc (.cells #[.slice none 0 0, .slice none 0 0] 29)
  have Y := Box.new ((w.alloc (.cells #[.slice A n c, .slice A' n' c'] 50)).alloc (.cells #[.slice none 0 0, .slice none 0 0] 29)) 29 #[.slice none 0 0, .slice none 0 0]
  have hb0 := bel_trans (bel_trans (bel_alloc w (.cells #[.slice A n c, .slice A' n' c'] 50)) (bel_alloc _ (.cells #[.slice none 0 0, .slice none 0 0] 29))) (bel_alloc _ (.cells #[.slice none 0 0, .slice none 0 0] 29))
  simp only [World.size_alloc] at X Y
  have H := Lib.hid (hr.later hb0).lt
  have H' := Lib.hid (hr'.lt.later hb0)
  clear hr hr' hm hm' hs
  go_enter Tryz.func27, Tryz.ntmps27
  go_upto_region 2 with fail
  generalize (((w.alloc _).alloc _).alloc _ : World) = w0 at hb0 D X Y H H' ⊢
  obtain ⟨d0, d1⟩ := D.two
  go_wp2_with fail
  refine (to_CS H.out (fun b hb => hb.2) hz1).mono ?_
  rintro e w1 ⟨G, rfl, hO, hb⟩
  have hY := Y.lt
  have hs1 := hb.size
  replace D := D.later hb D.lt
  replace X := X.later hb X.lt
  replace Y := Y.later hb Y.lt
  have E := bel_trans hb0 hb
  have K' := Lib.hid (H'.out.later hb)
  clear hb hb0 d0 d1
  have hO := hO.cs HL.out (Nat.le_refl _) (by unfold maxLen; omega)
  have t0 := turns_setCells9.turns_cell9 w1 (w.heap.size + 1 + 1) 0 (.slice (some ⟨G, 0, none⟩) n n)
  have D2 := D.far (p := ⟨w.heap.size + 1 + 1, 0, none⟩) (by show w.heap.size + 1 + 1 ≠ _; omega) (.slice (some ⟨G, 0, none⟩) n n)
  have X2 := X.far (p := ⟨w.heap.size + 1 + 1, 0, none⟩) (by show w.heap.size + 1 + 1 ≠ _; omega) (.slice (some ⟨G, 0, none⟩) n n)
  have Y2 := Y.set 0 (.slice (some ⟨G, 0, none⟩) n n)
  have O2 := hO.turn t0 (fun b hb => by have := hb.1; omega)
  have E2 := E.setCell (p := ⟨w.heap.size + 1 + 1, 0, none⟩) (by simp; omega) (.slice (some ⟨G, 0, none⟩) n n)
  have R2 := Lib.hid (K'.out.turn t0 (fun b hb => by have := hb.2; omega))
  obtain ⟨y0, y1⟩ := Y.two
  have fy := Y.frozen
  go_upto_region 3 with fail
  generalize (w1.setCell _ _ : World) = w2 at D2 X2 Y2 O2 E2 R2 ⊢
  clear D X Y hO E K' t0 y0 y1 fy
  obtain ⟨d0, d1⟩ := D2.two
  go_wp2_with fail
  refine (to_CS R2.out (fun b hb => Nat.lt_of_lt_of_le hb.2 E2.size) hz2).mono ?_
  rintro e w3 ⟨G', rfl, hO', hb⟩
  have hY2 := Y2.lt
  replace X2 := X2.later hb X2.lt
  replace Y2 := Y2.later hb Y2.lt
  replace O2 := O2.lt.later hb
  have E := bel_trans E2 hb
  have hs3 := hb.size
  clear hb E2 d0 d1 D2
  have hO' := hO'.cs HL'.out (Nat.le_refl _) (by unfold maxLen; omega)
  have t1 := turns_setCells9.turns_cell9 w3 (w.heap.size + 1 + 1) 1 (.slice (some ⟨G', 0, none⟩) n' n')
  have X3 := X2.far (p := ⟨w.heap.size + 1 + 1, 1, none⟩) (by show w.heap.size + 1 + 1 ≠ _; omega) (.slice (some ⟨G', 0, none⟩) n' n')
  have Y3 := Lib.hid (Y2.set 1 (.slice (some ⟨G', 0, none⟩) n' n'))
  have O3 := O2.turn t1 (fun b hb => by have := hb.1.1; omega)
  have P3 := hO'.turn t1 (fun b hb => by have := hb.1; omega)
  have E3 := E.setCell (p := ⟨w.heap.size + 1 + 1, 1, none⟩) (by simp; omega) (.slice (some ⟨G', 0, none⟩) n' n')
  obtain ⟨y0, y1⟩ := Y2.two
  have fy := Y2.frozen
  have hw3 : (w3.setCell ⟨w.heap.size + 1 + 1, 1, none⟩ (.slice (some ⟨G', 0, none⟩) n' n')).heap.size = w3.heap.size := size_set _ _ _
  go_upto_region 4 with fail
  generalize (w3.setCell _ _ : World) = w4 at X3 Y3 O3 P3 E3 hw3 ⊢
  clear X2 Y2 O2 E hO' t1 y0 y1 fy
  have Y4 : Box w4 (w.heap.size + 1 + 1) 29 #[.slice (some ⟨G, 0, none⟩) n n, .slice (some ⟨G', 0, none⟩) n' n'] := Y3.out
  obtain ⟨y0, y1⟩ := Y4.two
  have fy := X3.frozen
  obtain ⟨x0, x1⟩ := X3.two
  have hne : w.heap.size + 1 + 1 ≠ w.heap.size + 1 := by omega
  have t2 := turns_setCells9.turns_cell9 w4 (w.heap.size + 1) 0 (.slice (some ⟨G, 0, none⟩) n n)
  have t3 := turns_setCells9.turns_cell9 (w4.setCell ⟨w.heap.size + 1, 0, none⟩ (.slice (some ⟨G, 0, none⟩) n n)) (w.heap.size + 1) 1 (.slice (some ⟨G', 0, none⟩) n' n')
  have O5 := (O3.turn t2 (fun b hb => by have := hb.1.1; omega)).turn t3 (fun b hb => by have := hb.1.1; omega)
  have P5 := (P3.turn t2 (fun b hb => by have := hb.1; omega)).turn t3 (fun b hb => by have := hb.1; omega)
  have E5 := (E3.setCell (p := ⟨w.heap.size + 1, 0, none⟩) (by show w.heap.size ≤ w.heap.size + 1; omega) (.slice (some ⟨G, 0, none⟩) n n)).setCell (p := ⟨w.heap.size + 1, 1, none⟩) (by show w.heap.size ≤ w.heap.size + 1; omega) (.slice (some ⟨G', 0, none⟩) n' n')
  have X5 := Lib.hid ((X3.set 0 (.slice (some ⟨G, 0, none⟩) n n)).set 1 (.slice (some ⟨G', 0, none⟩) n' n'))
  have hs5 : ((w4.setCell ⟨w.heap.size + 1, 0, none⟩ (.slice (some ⟨G, 0, none⟩) n n)).setCell ⟨w.heap.size + 1, 1, none⟩ (.slice (some ⟨G', 0, none⟩) n' n')).heap.size = w4.heap.size := (size_set _ _ _).trans (size_set _ _ _)
  go_wp2
  generalize ((w4.setCell _ _).setCell _ _ : World) = w5 at O5 P5 E5 X5 hs5 ⊢
  have X6 : Box w5 (w.heap.size + 1) 29 #[.slice (some ⟨G, 0, none⟩) n n, .slice (some ⟨G', 0, none⟩) n' n'] := X5.out
  obtain ⟨z0, z1⟩ := X6.two
  refine bodyPost_ret (v := .agg #[.slice (some ⟨G, 0, none⟩) n n, .slice (some ⟨G', 0, none⟩) n' n']) (by simp [results, Tryz.results27, go_sem, z0, z1]) rfl ⟨_, rfl, ⟨_, _, _, _, rfl, O5, P5, fun b hb => ⟨?_, ?_⟩, fun b hb => ⟨?_, ?_⟩, fun b hb hb2 => ?_⟩, E5⟩
  · have := hb.1.1; omega
  · have := hb.2; omega
  · have := hb.1; omega
  · have := hb.2; omega
  · have := hb.2; have := hb2.1; omega
end Go.Proofs.YtjdepjpjjgkmbaaGreat

/- The exact law of JournalOk answers true, whatever it is given: its walk (written by exact8.py). -/
namespace Go.Proofs.YtjdepjpjjgkmbaaGreat
open Go Go.RowKit

theorem specJournalOk8_is {g : GrpD} {d : JourD} {w : World} {F0 F1 : Nat → Prop} {C0 C1 : Array Value} {z : Bool} (h0 : LieG g w F0 (.agg C0)) (h1 : LieJ d w F1 (.agg C1)) (_ : g.sz ≤ 1048576) (hs : d.sz ≤ 1048576) (hz : jokD g d = z) :
    Calls Tryz.prog 18 #[.agg C0, .agg C1] w fun e w' => e = .returned (.bool z) ∧ Below w.heap.size w w' := specJournalOk_is h0.at h1.somewhere hs hz
theorem journalOk8_is {g : GrpD} {d : JourD} {w : World} {F0 F1 : Nat → Prop} {C0 C1 : Array Value} {z : Bool} (h0 : LieG g w F0 (.agg C0)) (h1 : LieJ d w F1 (.agg C1)) (_ : g.sz ≤ 1048576) (hs : d.sz ≤ 1048576) (hz : jokD g d = z) :
    Calls Tryz.prog 17 #[.agg C0, .agg C1] w fun e w' => e = .returned (.bool z) ∧ Below w.heap.size w w' := journalOk_is h0.at h1.somewhere hs hz


/-- The variables of the arguments, as they were given. -/
structure PreJourOk (w wr : World) (C0 C1 : Array Value) (d0 : GrpD) (d1 : JourD) : Prop where
  v0 : VarOf (AtG d0) 47 wr (· < w.heap.size) (w.heap.size) C0
  v1 : VarOf (AtJ d1) 50 wr (· < w.heap.size) (w.heap.size + 1) C1
  bel : Below w.heap.size w wr
theorem PreJourOk.later {w wr w' : World} {C0 C1 : Array Value} {d0 : GrpD} {d1 : JourD} (h : PreJourOk w wr C0 C1 d0 d1) (hb : Below wr.heap.size wr w') : PreJourOk w w' C0 C1 d0 d1 :=
  ⟨h.v0.later (keepsG d0) hb, h.v1.later (keepsJ d1) hb, bel_trans h.bel hb⟩
theorem PreJourOk.turn {w wr w' : World} {C0 C1 : Array Value} {d0 : GrpD} {d1 : JourD} {T : Nat → Prop} (h : PreJourOk w wr C0 C1 d0 d1) (ht : Turns T wr w') (hT : ∀ b, T b → w.heap.size + 1 < b) : PreJourOk w w' C0 C1 d0 d1 :=
  ⟨h.v0.turn (keepsG d0) ht (fun hb => by have := hT _ hb; omega) (fun b hb hb2 => by have := hT b hb2; omega), h.v1.turn (keepsJ d1) ht (fun hb => by have := hT _ hb; omega) (fun b hb hb2 => by have := hT b hb2; omega), ht.below h.bel (fun b hb => by have := hT b hb; omega)⟩
theorem PreJourOk.start {w : World} {C0 C1 : Array Value} {d0 : GrpD} {d1 : JourD} (h0 : AtG d0 w (· < w.heap.size) (.agg C0)) (h1 : AtJ d1 w (· < w.heap.size) (.agg C1)) : PreJourOk w ((w.alloc (.cells C0 47)).alloc (.cells C1 50)) C0 C1 d0 d1 := by
  have e0 := bel_alloc w (.cells C0 47)
  have e1 := bel_alloc (w.alloc (.cells C0 47)) (.cells C1 50)
  have E0 := e0
  have E1 := bel_trans E0 e1
  have B0 := Box.new w 47 C0
  replace B0 := B0.alloc (.cells C1 50)
  have B1 := Box.new (w.alloc (.cells C0 47)) 50 C1
  try simp only [World.size_alloc] at B0 B1
  exact ⟨⟨B0, by omega, (keepsG d0).later h0 E1⟩, ⟨B1, by omega, (keepsJ d1).later h1 E1⟩, E1⟩

set_option maxRecDepth 100000 in
set_option maxHeartbeats 16000000 in
theorem exactJourOk_any (C0 C1 : Array Value) (d0 : GrpD) (d1 : JourD) (w : World) (h0 : AtG d0 w (· < w.heap.size) (.agg C0)) (h1 : AtJ d1 w (· < w.heap.size) (.agg C1)) :
    Calls Tryz.prog 5 #[.agg C0, .agg C1] w fun e w' => e = .returned (.bool true) ∧ Below w.heap.size w w' := by
  have I0 := Lib.hid (sizeG h0).1
  have J0 := Lib.hid (sizeG h0).2
  have I1 := Lib.hid (sizeJ h1).1
  have J1 := Lib.hid (sizeJ h1).2
  have K0 := PreJourOk.start h0 h1
  clear h0 h1
  go_enter Tryz.func5, Tryz.ntmps5
  go_wp2_with (refine wpList_load_box 47 _ rfl (w.heap.size) rfl 47 C0 K0.v0.box _ Tryz.underlying47 rfl I0.out (by first | rfl | simp [Region.wanted, yielded] | (simp [Region.wanted, yielded, Act.put] <;> omega)) ?_)
  generalize ((w.alloc _).alloc _ : World) = w0 at K0 ⊢
  refine (sz_G K0.v0.dat).mono ?_
  rintro e w1 ⟨⟨u, rfl, hle, hgt⟩, hb⟩
  replace K0 := K0.later hb
  clear hb
  rcases Int.lt_or_le (1048576) (d0.sz : Int) with hs0 | hs0
  · have hu := hgt hs0
    clear hle hgt
    have E := K0.bel
    go_wp2
    go_ret
    exact ⟨rfl, E⟩
  have hu := hle hs0
  clear hle hgt
  subst hu
  have hu0 : ¬ (1048576 - (d0.sz : Int) < 0) := by omega
  go_wp2_with (refine wpList_load_box 50 _ rfl (w.heap.size + 1) rfl 50 C1 K0.v1.box _ Tryz.underlying50 rfl I1.out (by first | rfl | simp [Region.wanted, yielded] | (simp [Region.wanted, yielded, Act.put] <;> omega)) ?_)
  refine (sz_J K0.v1.dat (L := 1048576 - (d0.sz : Int)) (by omega) (by omega)).mono ?_
  rintro e w1 ⟨⟨u, rfl, hle, hgt⟩, hb⟩
  replace K0 := K0.later hb
  clear hb
  rcases Int.lt_or_le (1048576 - (d0.sz : Int)) (d1.sz : Int) with hs1 | hs1
  · have hu := hgt hs1
    clear hle hgt
    have E := K0.bel
    go_wp2
    go_ret
    exact ⟨rfl, E⟩
  have hu := hle hs1
  clear hle hgt
  subst hu
  have hu1 : ¬ (1048576 - (d0.sz : Int) - (d1.sz : Int) < 0) := by omega
  have hz0 : d0.sz ≤ 1048576 := by omega
  have hz1 : d1.sz ≤ 1048576 := by omega
  obtain ⟨z, hz⟩ : ∃ z, jokD d0 d1 = z := ⟨_, rfl⟩
  have HZ := Lib.hid hz
  have hzz : (z != z) = false := by simp
  clear hz
  go_upto_region 8 with fail
  clear hs0 hu0 hs1 hu1
  -- the model, on copies
  refine wp_region_sink 6 (fun w' => Box w' (w.heap.size) 47 C0 ∧ Box w' (w.heap.size + 1) 50 C1) (by kernel_rfl) ⟨K0.v0.box, K0.v1.box⟩ (fun hH => ?_)
  replace K0 := K0.later ((Below.refl w1.heap.size w1).drew)
  generalize w1.drew = w2 at K0 hH ⊢
  refine wpAnyE_takeS (i := 0) (v := .agg C0) (by simp only [List.getElem?_toArray, List.getElem?_cons_zero]; rfl) (by kernel_rfl) (by kernel_rfl) (by kernel_rfl) (by exact fun _ _ _ h => h) (by kernel_rfl) ?y0 hH ?_
  case y0 => exact yields_box 47 _ rfl (w.heap.size) rfl 47 C0 (fun _ h => h.1) _ Tryz.underlying47 rfl I0.out (by first | rfl | simp [Region.wanted, yielded] | (simp [Region.wanted, yielded, Act.put] <;> omega))
  try simp only [Act.put, List.setIfInBounds_toArray, List.set_cons_zero, List.set_cons_succ]
  refine wpAnyE_takeS (i := 2) (v := .agg C1) (by simp only [List.getElem?_toArray, List.getElem?_cons_succ, List.getElem?_cons_zero]; rfl) (by kernel_rfl) (by kernel_rfl) (by kernel_rfl) (by exact fun _ _ _ h => h) (by kernel_rfl) ?y1 hH ?_
  case y1 => exact yields_box 50 _ rfl (w.heap.size + 1) rfl 50 C1 (fun _ h => h.2) _ Tryz.underlying50 rfl I1.out (by first | rfl | simp [Region.wanted, yielded] | (simp [Region.wanted, yielded, Act.put] <;> omega))
  try simp only [Act.put, List.setIfInBounds_toArray, List.set_cons_zero, List.set_cons_succ]
  refine wpAnyE_one (i := 1) (by kernel_rfl) (by simp only [List.getElem?_toArray, List.getElem?_cons_succ, List.getElem?_cons_zero]; rfl) (fun K hK => ?_)
  go_simp
  refine (to_G K0.v0.dat hz0).mono ?_
  rintro e w3 ⟨D0, rfl, L0, hb⟩
  replace K0 := K0.later hb
  clear hb
  clear hH
  refine hK.out _ _ ⟨K0.v0.box, K0.v1.box⟩ (fun hH => ?_)
  clear hK K
  try simp only [Act.put, List.setIfInBounds_toArray, List.set_cons_zero, List.set_cons_succ]
  refine wpAnyE_one (i := 3) (by kernel_rfl) (by simp only [List.getElem?_toArray, List.getElem?_cons_succ, List.getElem?_cons_zero]; rfl) (fun K hK => ?_)
  go_simp
  refine (to_J K0.v1.dat hz1).mono ?_
  rintro e w3 ⟨D1, rfl, L1, hb⟩
  replace K0 := K0.later hb
  replace L0 := (keepsLG d0).later L0 hb
  clear hb
  clear hH
  refine hK.out _ _ ⟨K0.v0.box, K0.v1.box⟩ (fun hH => ?_)
  clear hK K
  try simp only [Act.put, List.setIfInBounds_toArray, List.set_cons_zero, List.set_cons_succ]
  refine wpAnyE_one (i := 4) (by kernel_rfl) (by simp only [List.getElem?_toArray, List.getElem?_cons_succ, List.getElem?_cons_zero]; rfl) (fun K hK => ?_)
  go_simp
  refine (specJournalOk8_is L0 L1 hz0 hz1 HZ.out).mono ?_
  rintro e w4 ⟨rfl, hb⟩
  replace K0 := K0.later hb
  clear hb L0 L1
  clear hH
  refine hK.out _ _ ⟨K0.v0.box, K0.v1.box⟩ (fun hH => ?_)
  clear hK K
  try simp only [Act.put, List.setIfInBounds_toArray, List.set_cons_zero, List.set_cons_succ]
  refine wpAnyE_end (i := 5) (by kernel_rfl) (by simp only [List.getElem?_toArray, List.getElem?_cons_succ, List.getElem?_cons_zero]; rfl) (by kernel_rfl) (fun K hK => ?_)
  go_simp
  refine hK.out _ _ ⟨K0.v0.box, K0.v1.box⟩ ?_
  clear hK K
  try simp only [Act.put, List.setIfInBounds_toArray, List.set_cons_zero, List.set_cons_succ]
  obtain ⟨w1, rfl⟩ : ∃ x, x = w4 := ⟨_, rfl⟩
  clear hH
  -- a copy that is handed in
  go_wp2_with (refine wpList_load_box 47 _ rfl (w.heap.size) rfl 47 C0 K0.v0.box _ Tryz.underlying47 rfl I0.out (by first | rfl | simp [Region.wanted, yielded] | (simp [Region.wanted, yielded, Act.put] <;> omega)) ?_)
  refine (to_G K0.v0.dat hz0).mono ?_
  rintro e w2 ⟨D0, rfl, hL, hb⟩
  have s0 := hb.size
  have q0 := K0.v1.box.lt
  have O := Lib.hid (oneG hL.at)
  have JS := Lib.hid (sizeG hL.at).2
  have J0 := JS
  have hn := bel_new_row w2 #[.int .i64 0, .int .i64 0, .int .i64 0, .int .i64 0, .slice none 0 0] 26 D0
  have X0 := var_new_row (keepsLG d0) (Z := #[.int .i64 0, .int .i64 0, .int .i64 0, .int .i64 0, .slice none 0 0]) 26 hL (fun b hb => hb.2)
  replace K0 := (K0.later hb).later hn
  have ZB := Box.new w2 26 #[.int .i64 0, .int .i64 0, .int .i64 0, .int .i64 0, .slice none 0 0]
  generalize w1.heap.size = S0 at s0 q0 X0 
  clear hb hL hn
  go_upto_region 10 with (refine wpList_store_row rfl 26 _ _ rfl w2.heap.size _ rfl rfl 26 #[.int .i64 0, .int .i64 0, .int .i64 0, .int .i64 0, .slice none 0 0] ZB JS.out O.out.1.symm O.out.2 ?_)
  clear ZB O JS
  generalize ((w2.alloc _).setRow _ _ : World) = w3 at K0 X0 ⊢
  generalize w2.heap.size = V0 at s0 X0 ⊢
  obtain ⟨w1, rfl⟩ : ∃ x, x = w3 := ⟨_, rfl⟩
  -- a copy that is handed in
  go_wp2_with (refine wpList_load_box 50 _ rfl (w.heap.size + 1) rfl 50 C1 K0.v1.box _ Tryz.underlying50 rfl I1.out (by first | rfl | simp [Region.wanted, yielded] | (simp [Region.wanted, yielded, Act.put] <;> omega)) ?_)
  refine (to_J K0.v1.dat hz1).mono ?_
  rintro e w2 ⟨D1, rfl, hL, hb⟩
  have s1 := hb.size
  have q1 := X0.box.lt
  have O := Lib.hid (oneJ hL.at)
  have JS := Lib.hid (sizeJ hL.at).2
  have J1 := JS
  have hn := bel_new_row w2 #[.slice none 0 0, .slice none 0 0] 29 D1
  have X1 := var_new_row (keepsLJ d1) (Z := #[.slice none 0 0, .slice none 0 0]) 29 hL (fun b hb => hb.2)
  replace X0 := (X0.later (keepsLG d0) hb).later (keepsLG d0) hn
  replace K0 := (K0.later hb).later hn
  have ZB := Box.new w2 29 #[.slice none 0 0, .slice none 0 0]
  generalize w1.heap.size = S1 at s1 q1 X1 
  clear hb hL hn
  go_upto_region 11 with (refine wpList_store_row rfl 29 _ _ rfl w2.heap.size _ rfl rfl 29 #[.slice none 0 0, .slice none 0 0] ZB JS.out O.out.1.symm O.out.2 ?_)
  clear ZB O JS
  generalize ((w2.alloc _).setRow _ _ : World) = w3 at K0 X0 X1 ⊢
  generalize w2.heap.size = V1 at s1 X1 ⊢
  obtain ⟨w1, rfl⟩ : ∃ x, x = w3 := ⟨_, rfl⟩
  -- the program
  go_wp2_with (first | (refine wpList_load_box 26 _ rfl (V0) rfl 26 D0 X0.box _ Tryz.underlying26 rfl J0.out (by first | rfl | simp [Region.wanted, yielded] | (simp [Region.wanted, yielded, Act.put] <;> omega)) ?_) | (refine wpList_load_box 29 _ rfl (V1) rfl 29 D1 X1.box _ Tryz.underlying29 rfl J1.out (by first | rfl | simp [Region.wanted, yielded] | (simp [Region.wanted, yielded, Act.put] <;> omega)) ?_))
  refine (journalOk8_is X0.dat X1.dat hz0 hz1 HZ.out).mono ?_
  rintro e w4 ⟨rfl, hb⟩
  replace K0 := K0.later hb
  replace X0 := X0.later (keepsLG d0) hb
  replace X1 := X1.later (keepsLJ d1) hb
  clear hb
  obtain ⟨w1, rfl⟩ : ∃ x, x = w4 := ⟨_, rfl⟩
  -- an argument is as it was
  go_upto_region 14 with fail
  refine wp_region_sink 5 (fun w' => Box w' V0 26 D0 ∧ Box w' (w.heap.size) 47 C0) (by kernel_rfl) ⟨X0.box, K0.v0.box⟩ (fun hH => ?_)
  have hb := (Below.refl w1.heap.size w1).drew
  replace K0 := K0.later hb
  replace X0 := X0.later (keepsLG d0) hb
  replace X1 := X1.later (keepsLJ d1) hb
  clear hb
  generalize w1.drew = w2 at K0 hH X0 X1 ⊢
  refine wpAnyE_takeS (i := 0) (v := .agg D0) (by simp only [List.getElem?_toArray, List.getElem?_cons_zero]; rfl) (by kernel_rfl) (by kernel_rfl) (by kernel_rfl) (by exact fun _ _ _ h => h) (by kernel_rfl) ?yx0 hH ?_
  case yx0 => exact yields_box 26 _ rfl (V0) rfl 26 D0 (fun _ h => h.1) _ Tryz.underlying26 rfl J0.out (by first | rfl | simp [Region.wanted, yielded] | (simp [Region.wanted, yielded, Act.put] <;> omega))
  try simp only [Act.put, List.setIfInBounds_toArray, List.set_cons_zero, List.set_cons_succ]
  refine wpAnyE_takeS (i := 1) (v := .agg C0) (by simp only [List.getElem?_toArray, List.getElem?_cons_succ, List.getElem?_cons_zero]; rfl) (by kernel_rfl) (by kernel_rfl) (by kernel_rfl) (by exact fun _ _ _ h => h) (by kernel_rfl) ?yo0 hH ?_
  case yo0 => exact yields_box 47 _ rfl (w.heap.size) rfl 47 C0 (fun _ h => h.2) _ Tryz.underlying47 rfl I0.out (by first | rfl | simp [Region.wanted, yielded] | (simp [Region.wanted, yielded, Act.put] <;> omega))
  try simp only [Act.put, List.setIfInBounds_toArray, List.set_cons_zero, List.set_cons_succ]
  refine wpAnyE_one (i := 2) (by kernel_rfl) (by simp only [List.getElem?_toArray, List.getElem?_cons_succ, List.getElem?_cons_zero]; rfl) (fun K hK => ?_)
  go_simp
  refine (to_G K0.v0.dat hz0).mono ?_
  rintro e w3 ⟨D, rfl, L, hb⟩
  replace K0 := K0.later hb
  replace X0 := X0.later (keepsLG d0) hb
  replace X1 := X1.later (keepsLJ d1) hb
  clear hb
  clear hH
  refine hK.out _ _ ⟨X0.box, K0.v0.box⟩ (fun hH => ?_)
  clear hK K
  try simp only [Act.put, List.setIfInBounds_toArray, List.set_cons_zero, List.set_cons_succ]
  refine wpAnyE_one (i := 3) (by kernel_rfl) (by simp only [List.getElem?_toArray, List.getElem?_cons_succ, List.getElem?_cons_zero]; rfl) (fun K hK => ?_)
  go_simp
  refine (eq_G X0.dat.at L.at hz0).mono ?_
  rintro e w4 ⟨rfl, hb⟩
  replace K0 := K0.later hb
  replace X0 := X0.later (keepsLG d0) hb
  replace X1 := X1.later (keepsLJ d1) hb
  clear hb L
  clear hH
  refine hK.out _ _ ⟨X0.box, K0.v0.box⟩ (fun hH => ?_)
  clear hK K
  try simp only [Act.put, List.setIfInBounds_toArray, List.set_cons_zero, List.set_cons_succ]
  refine wpAnyE_end (i := 4) (by kernel_rfl) (by simp only [List.getElem?_toArray, List.getElem?_cons_succ, List.getElem?_cons_zero]; rfl) (by kernel_rfl) (fun K hK => ?_)
  go_simp
  refine hK.out _ _ ⟨X0.box, K0.v0.box⟩ ?_
  clear hK K
  try simp only [Act.put, List.setIfInBounds_toArray, List.set_cons_zero, List.set_cons_succ]
  obtain ⟨w1, rfl⟩ : ∃ x, x = w4 := ⟨_, rfl⟩
  clear hH
  -- an argument is as it was
  go_upto_region 16 with fail
  refine wp_region_sink 5 (fun w' => Box w' V1 29 D1 ∧ Box w' (w.heap.size + 1) 50 C1) (by kernel_rfl) ⟨X1.box, K0.v1.box⟩ (fun hH => ?_)
  have hb := (Below.refl w1.heap.size w1).drew
  replace K0 := K0.later hb
  replace X0 := X0.later (keepsLG d0) hb
  replace X1 := X1.later (keepsLJ d1) hb
  clear hb
  generalize w1.drew = w2 at K0 hH X0 X1 ⊢
  refine wpAnyE_takeS (i := 0) (v := .agg D1) (by simp only [List.getElem?_toArray, List.getElem?_cons_zero]; rfl) (by kernel_rfl) (by kernel_rfl) (by kernel_rfl) (by exact fun _ _ _ h => h) (by kernel_rfl) ?yx1 hH ?_
  case yx1 => exact yields_box 29 _ rfl (V1) rfl 29 D1 (fun _ h => h.1) _ Tryz.underlying29 rfl J1.out (by first | rfl | simp [Region.wanted, yielded] | (simp [Region.wanted, yielded, Act.put] <;> omega))
  try simp only [Act.put, List.setIfInBounds_toArray, List.set_cons_zero, List.set_cons_succ]
  refine wpAnyE_takeS (i := 1) (v := .agg C1) (by simp only [List.getElem?_toArray, List.getElem?_cons_succ, List.getElem?_cons_zero]; rfl) (by kernel_rfl) (by kernel_rfl) (by kernel_rfl) (by exact fun _ _ _ h => h) (by kernel_rfl) ?yo1 hH ?_
  case yo1 => exact yields_box 50 _ rfl (w.heap.size + 1) rfl 50 C1 (fun _ h => h.2) _ Tryz.underlying50 rfl I1.out (by first | rfl | simp [Region.wanted, yielded] | (simp [Region.wanted, yielded, Act.put] <;> omega))
  try simp only [Act.put, List.setIfInBounds_toArray, List.set_cons_zero, List.set_cons_succ]
  refine wpAnyE_one (i := 2) (by kernel_rfl) (by simp only [List.getElem?_toArray, List.getElem?_cons_succ, List.getElem?_cons_zero]; rfl) (fun K hK => ?_)
  go_simp
  refine (to_J K0.v1.dat hz1).mono ?_
  rintro e w3 ⟨D, rfl, L, hb⟩
  replace K0 := K0.later hb
  replace X0 := X0.later (keepsLG d0) hb
  replace X1 := X1.later (keepsLJ d1) hb
  clear hb
  clear hH
  refine hK.out _ _ ⟨X1.box, K0.v1.box⟩ (fun hH => ?_)
  clear hK K
  try simp only [Act.put, List.setIfInBounds_toArray, List.set_cons_zero, List.set_cons_succ]
  refine wpAnyE_one (i := 3) (by kernel_rfl) (by simp only [List.getElem?_toArray, List.getElem?_cons_succ, List.getElem?_cons_zero]; rfl) (fun K hK => ?_)
  go_simp
  refine (eq_J X1.dat.at L.at hz1).mono ?_
  rintro e w4 ⟨rfl, hb⟩
  replace K0 := K0.later hb
  replace X0 := X0.later (keepsLG d0) hb
  replace X1 := X1.later (keepsLJ d1) hb
  clear hb L
  clear hH
  refine hK.out _ _ ⟨X1.box, K0.v1.box⟩ (fun hH => ?_)
  clear hK K
  try simp only [Act.put, List.setIfInBounds_toArray, List.set_cons_zero, List.set_cons_succ]
  refine wpAnyE_end (i := 4) (by kernel_rfl) (by simp only [List.getElem?_toArray, List.getElem?_cons_succ, List.getElem?_cons_zero]; rfl) (by kernel_rfl) (fun K hK => ?_)
  go_simp
  refine hK.out _ _ ⟨X1.box, K0.v1.box⟩ ?_
  clear hK K
  try simp only [Act.put, List.setIfInBounds_toArray, List.set_cons_zero, List.set_cons_succ]
  obtain ⟨w1, rfl⟩ : ∃ x, x = w4 := ⟨_, rfl⟩
  clear hH
  have E := K0.bel
  clear K0 X0 X1
  go_wp2
  go_ret
  exact ⟨rfl, E⟩

end Go.Proofs.YtjdepjpjjgkmbaaGreat

/- A struct of one-cell fields that comes in is read field by field; two facts of the program's own; no conditions. -/
namespace Go.Proofs.YtjdepjpjjgkmbaaGreat
open Go.ChangeShapes Go.WideShapes Go.ChangeAt Go.RowKit Go.Deep
set_option linter.unusedVariables false

/-- A struct of one-cell fields, by value: its cells, each with its own reading. -/
theorem one_fields {H : Type} {enc : TypeId × Value → H} {P : Program} {W : World} {r : Reach} {b0 : Nat} {t : TypeId} {fs : Array Field} {v : Value} {d : DataW H} {p : List MemPlace} (hs : P.underlying t = some (.struct fs)) (hone : oneCellFields P fs = true) (hC : P.cellsOf t = fs.size)
    (hv : Value.okWide P W r b0 t v) (h : DataW.Trod enc P W 0 (fun _ => true) true t v d p) :
    ∃ (l : List Value) (m : Nat), v = .agg l.toArray ∧ l.length = fs.size ∧ ∀ (i : Nat) (f : Field) (u : Value), fs[i]? = some f → l[i]? = some u → ∃ y, DataW.trod enc P W 0 (fun _ => true) true m f.type [u] = some y := by
  obtain ⟨cs, rfl, hsz⟩ := okWide_struct hs hv
  obtain ⟨fuel, hf⟩ := h
  obtain ⟨xs, m, _, _, _, hxl, hg⟩ := DataW.trod_struct hs hf
  obtain ⟨l⟩ := cs
  refine ⟨l, m, rfl, by simpa using hsz.trans hC, fun i f u hi hu => ?_⟩
  have h1 := hg i f hi
  obtain ⟨ho, hk⟩ := hone_of hone i f hi
  rw [ho, hk] at h1
  have e : ((Value.agg (List.toArray l)).cells.toList.drop i).take 1 = [u] := by
    show (l.drop i).take 1 = [u]
    rw [List.take_one, List.head?_drop, hu]
    rfl
  rw [e] at h1
  have hlt : i < xs.length := by rw [hxl]; exact (Array.getElem?_eq_some_iff.1 hi).1
  exact ⟨_, h1.trans (List.getElem?_eq_getElem hlt)⟩

/-- Whatever struct, its cells laid out: each field's own cells with their own reading. -/
theorem sub_fields {H : Type} {enc : TypeId × Value → H} {P : Program} {W : World} {t : TypeId} {fs : Array Field} {fuel : Nat} {cs : List Value} {x : DataW H × List MemPlace} (hs : P.underlying t = some (.struct fs)) (h : DataW.trod enc P W 0 (fun _ => true) true fuel t cs = some x) :
    ∃ m, ∀ (i : Nat) (f : Field), fs[i]? = some f → ∃ y, DataW.trod enc P W 0 (fun _ => true) true m f.type ((cs.drop f.offset).take (P.cellsOf f.type)) = some y := by
  obtain ⟨xs, m, _, _, _, hxl, hg⟩ := DataW.trod_struct hs h
  refine ⟨m, fun i f hi => ?_⟩
  have h1 := hg i f hi
  have hlt : i < xs.length := by rw [hxl]; exact (Array.getElem?_eq_some_iff.1 hi).1
  exact ⟨_, h1.trans (List.getElem?_eq_getElem hlt)⟩

theorem own : ownKnob Tryz.prog.godebug = none := by kernel_rfl
theorem laidOut : laidOutB Tryz.prog = true := by kernel_rfl

end Go.Proofs.YtjdepjpjjgkmbaaGreat

/- A group that comes in is read as four numbers and a row of keys. -/
namespace Go.Proofs.YtjdepjpjjgkmbaaGreat
set_option maxRecDepth 100000
open Go.ChangeShapes Go.WideShapes Go.ChangeAt Go.RowKit Go.Deep
set_option linter.unusedVariables false

/-- What the reading of a group that came in tells: its four numbers, and its keys as a row. -/
theorem group_read {H : Type} {enc : TypeId × Value → H} {W : World} {r : Reach} {b0 : Nat} {v : Value} {d : DataW H} {p : List MemPlace} (hv : Value.okWide Tryz.prog W r b0 47 v) (h : DataW.Trod enc Tryz.prog W 0 (fun _ => true) true 47 v d p) :
    ∃ (s l c sh : Int) (A : Option Addr) (n cap : Nat) (zs : List Int), v = .agg #[.int .i64 s, .int .i64 l, .int .i64 c, .int .i64 sh, .slice A n cap] ∧ Row W W.heap.size A n zs ∧ n ≤ maxLen := by
  obtain ⟨l0, m, rfl, h5, get⟩ := one_fields Tryz.underlying47 (by kernel_rfl) (by kernel_rfl) hv h
  have h5 : l0.length = 5 := h5
  obtain ⟨c0, l1, rfl⟩ : ∃ c0 l1, l0 = c0 :: l1 := List.exists_cons_of_length_pos (by omega)
  obtain ⟨c1, l2, rfl⟩ : ∃ c0 l2, l1 = c0 :: l2 := List.exists_cons_of_length_pos (by simp only [List.length_cons] at h5; omega)
  obtain ⟨c2, l3, rfl⟩ : ∃ c0 l3, l2 = c0 :: l3 := List.exists_cons_of_length_pos (by simp only [List.length_cons] at h5; omega)
  obtain ⟨c3, l4, rfl⟩ : ∃ c0 l4, l3 = c0 :: l4 := List.exists_cons_of_length_pos (by simp only [List.length_cons] at h5; omega)
  obtain ⟨c4, l5, rfl⟩ : ∃ c0 l5, l4 = c0 :: l5 := List.exists_cons_of_length_pos (by simp only [List.length_cons] at h5; omega)
  obtain rfl : l5 = [] := List.eq_nil_of_length_eq_zero (by simp only [List.length_cons] at h5; omega)
  obtain ⟨y0, g0⟩ := get 0 _ _ rfl rfl
  obtain ⟨y1, g1⟩ := get 1 _ _ rfl rfl
  obtain ⟨y2, g2⟩ := get 2 _ _ rfl rfl
  obtain ⟨y3, g3⟩ := get 3 _ _ rfl rfl
  obtain ⟨y4, g4⟩ := get 4 _ _ rfl rfl
  obtain ⟨s, e0, _, _⟩ := DataW.trod_int Tryz.underlying2 g0
  obtain ⟨l, e1, _, _⟩ := DataW.trod_int Tryz.underlying2 g1
  obtain ⟨c, e2, _, _⟩ := DataW.trod_int Tryz.underlying2 g2
  obtain ⟨sh, e3, _, _⟩ := DataW.trod_int Tryz.underlying2 g3
  simp only [List.cons.injEq, and_true] at e0 e1 e2 e3
  subst e0 e1 e2 e3
  rcases open_ints Tryz.underlying24 Tryz.underlying2 (by kernel_rfl) g4 with ⟨e4, _⟩ | ⟨a, len, cap, zs, e4, _, hl, hm, hz, _, hcell, _⟩
  · simp only [List.cons.injEq, and_true] at e4
    subst e4
    exact ⟨s, l, c, sh, none, 0, 0, [], rfl, ⟨rfl, fun h => absurd h (by omega)⟩, by unfold maxLen; omega⟩
  · simp only [List.cons.injEq, and_true] at e4
    subst e4
    have hzc : zs.length = cap := by simpa using hz
    refine ⟨s, l, c, sh, some a, len, cap, zs.take len, rfl, ⟨by rw [List.length_take]; omega, fun hn => ?_⟩, by omega⟩
    obtain ⟨b, o, spot⟩ := a
    have hc0 := hcell 0 (by omega)
    have hs : spot = none := by simpa [Addr.add] using World.cell?_spot hc0
    subst hs
    refine ⟨b, o, rfl, ?_, fun i hi => ?_⟩
    · have := block_lt_of_cell hc0
      simpa [Addr.add] using this
    · have hci := hcell i (by omega)
      have ea : (⟨b, o, none⟩ : Addr).add i = ⟨b, o + i, none⟩ := by
        unfold Addr.add
        split
        · simp_all
        · rfl
      rw [ea] at hci
      rw [hci]
      have : nth (zs.take len) i = zs.getD i 0 := by simp [nth, hi]
      rw [this]

end Go.Proofs.YtjdepjpjjgkmbaaGreat

/- A stamp that comes in is read as two numbers, a list of stamps as a list of pairs; no conditions. -/
namespace Go.Proofs.YtjdepjpjjgkmbaaGreat
set_option maxRecDepth 100000
open Go.ChangeShapes Go.WideShapes Go.ChangeAt Go.RowKit Go.Deep
set_option linter.unusedVariables false

/-- The number that a value is. -/
def intV : Value → Int
  | .int _ z => z
  | _ => 0

/-- What the reading of a slice of structs of two int64 tells: a list of pairs. -/
theorem pairs_of {H : Type} {enc : TypeId × Value → H} {P : Program} {W : World} {t e : TypeId} {f0 f1 : Field} {fuel : Nat} {v : Value} {x : DataW H × List MemPlace} (ht : P.underlying t = some (.slice e)) (he : P.underlying e = some (.struct #[f0, f1]))
    (ce : P.cellsOf e = 2) (o0 : f0.offset = 0) (o1 : f1.offset = 1) (c0 : P.cellsOf f0.type = 1) (c1 : P.cellsOf f1.type = 1) (u0 : P.underlying f0.type = some (.int .i64)) (u1 : P.underlying f1.type = some (.int .i64))
    (h : DataW.trod enc P W 0 (fun _ => true) true fuel t [v] = some x) :
    ∃ (A : Option Addr) (n cap : Nat) (ps : List (Int × Int)), v = .slice A n cap ∧ Pairs W W.heap.size A n ps ∧ n ≤ maxLen := by
  rcases open_slice_pairs ht he ce o0 o1 c0 c1 h with ⟨e4, _⟩ | ⟨a, len, cap, m, n, V0, V1, D0, D1, P0, P1, e4, _, hl, hm, hmm, _, hc⟩
  · simp only [List.cons.injEq, and_true] at e4
    subst e4
    exact ⟨none, 0, 0, [], rfl, ⟨rfl, fun h => absurd h (by omega)⟩, by unfold maxLen; omega⟩
  · simp only [List.cons.injEq, and_true] at e4
    subst e4
    have hmm : m = cap := by simpa using hmm
    refine ⟨some a, len, cap, (List.range len).map fun i => (intV (V0 i), intV (V1 i)), rfl, ⟨by simp, fun hn => ?_⟩, by omega⟩
    obtain ⟨b, o, spot⟩ := a
    have hs : spot = none := by
      have := (hc 0 (by omega)).1
      simpa [Addr.add] using World.cell?_spot this
    subst hs
    have ea : ∀ i, (⟨b, o, none⟩ : Addr).add i = ⟨b, o + i, none⟩ := fun i => by
      unfold Addr.add
      split
      · simp_all
      · rfl
    refine ⟨b, o, rfl, ?_, fun i hi => ?_⟩
    · have := block_lt_of_cell (hc 0 (by omega)).1
      rw [ea] at this
      exact this
    · obtain ⟨h0, h1, t0, t1⟩ := hc i (by omega)
      obtain ⟨z0, e0, _, _⟩ := DataW.trod_int u0 t0
      obtain ⟨z1, e1, _, _⟩ := DataW.trod_int u1 t1
      simp only [List.cons.injEq, and_true] at e0 e1
      rw [ea] at h0 h1
      have ep : pth ((List.range len).map fun i => (intV (V0 i), intV (V1 i))) i = (intV (V0 i), intV (V1 i)) := by simp [pth, hi]
      rw [ep, h0, show o + i * 2 + 1 = o + (i * 2 + 1) by omega, h1, e0, e1]
      exact ⟨rfl, rfl⟩

end Go.Proofs.YtjdepjpjjgkmbaaGreat

/- A list of seals that comes in is read as a list of pairs. -/
namespace Go.Proofs.YtjdepjpjjgkmbaaGreat
set_option maxRecDepth 100000
open Go.ChangeShapes Go.WideShapes Go.ChangeAt Go.RowKit Go.Deep

end Go.Proofs.YtjdepjpjjgkmbaaGreat

/- A claim that comes in is read as five numbers, a seal as two. -/
namespace Go.Proofs.YtjdepjpjjgkmbaaGreat
set_option maxRecDepth 100000
open Go.ChangeShapes Go.WideShapes Go.ChangeAt Go.RowKit Go.Deep
set_option linter.unusedVariables false

theorem cells_int : Tryz.prog.cellsOf 2 = 1 := by kernel_rfl
theorem cells_stamp : Tryz.prog.cellsOf 57 = 2 := by kernel_rfl
end Go.Proofs.YtjdepjpjjgkmbaaGreat

/- A note that comes in is read as fourteen numbers and two lists of pairs. -/
namespace Go.Proofs.YtjdepjpjjgkmbaaGreat
set_option maxRecDepth 100000
open Go.ChangeShapes Go.WideShapes Go.ChangeAt Go.RowKit Go.Deep
set_option linter.unusedVariables false

/-- One number, read. -/
theorem int_of {H : Type} {enc : TypeId × Value → H} {W : World} {m : Nat} {x : Value} {y : DataW H × List MemPlace} (h : DataW.trod enc Tryz.prog W 0 (fun _ => true) true m 2 [x] = some y) : ∃ z : Int, x = .int .i64 z := by
  obtain ⟨z, e, _, _⟩ := DataW.trod_int Tryz.underlying2 h
  simp only [List.cons.injEq, and_true] at e
  exact ⟨z, e⟩
/-- A stamp's two cells, read. -/
theorem two_of {H : Type} {enc : TypeId × Value → H} {W : World} {m : Nat} {x x' : Value} {y : DataW H × List MemPlace} (h : DataW.trod enc Tryz.prog W 0 (fun _ => true) true m 57 [x, x'] = some y) : ∃ z z' : Int, x = .int .i64 z ∧ x' = .int .i64 z' := by
  obtain ⟨m', get'⟩ := sub_fields Tryz.underlying57 h
  obtain ⟨z0, k0⟩ := get' 0 _ rfl
  obtain ⟨z1, k1⟩ := get' 1 _ rfl
  have k0 : DataW.trod enc Tryz.prog W 0 (fun _ => true) true m' 2 (List.take (Tryz.prog.cellsOf 2) (List.drop 0 [x, x'])) = some z0 := k0
  rw [cells_int] at k0
  have k1 : DataW.trod enc Tryz.prog W 0 (fun _ => true) true m' 2 (List.take (Tryz.prog.cellsOf 2) (List.drop 1 [x, x'])) = some z1 := k1
  rw [cells_int] at k1
  obtain ⟨a, ha⟩ := int_of (show DataW.trod enc Tryz.prog W 0 (fun _ => true) true m' 2 [x] = some z0 from k0)
  obtain ⟨b, hb⟩ := int_of (show DataW.trod enc Tryz.prog W 0 (fun _ => true) true m' 2 [x'] = some z1 from k1)
  exact ⟨a, b, ha, hb⟩

end Go.Proofs.YtjdepjpjjgkmbaaGreat

/- A record that comes in is read as eight numbers and a list of pairs; no conditions. -/
namespace Go.Proofs.YtjdepjpjjgkmbaaGreat
set_option maxRecDepth 100000
open Go.ChangeShapes Go.WideShapes Go.ChangeAt Go.RowKit Go.Deep
set_option linter.unusedVariables false

theorem cells_sealsR : Tryz.prog.cellsOf 58 = 1 := by kernel_rfl
theorem cells_rec : Tryz.prog.cellsOf 188 = 9 := by kernel_rfl

/-- A record's nine cells, read. -/
theorem nine_of {H : Type} {enc : TypeId × Value → H} {W : World} {m : Nat} {c0 c1 c2 c3 c4 c5 c6 c7 c8 : Value} {y : DataW H × List MemPlace} (h : DataW.trod enc Tryz.prog W 0 (fun _ => true) true m 188 [c0, c1, c2, c3, c4, c5, c6, c7, c8] = some y) :
    ∃ (r1 r2 r3 r4 r5 r6 r7 : Int) (L : Option Addr) (n mc : Nat) (r8 : Int) (ps : List (Int × Int)), c0 = .int .i64 r1 ∧ c1 = .int .i64 r2 ∧ c2 = .int .i64 r3 ∧ c3 = .int .i64 r4 ∧ c4 = .int .i64 r5 ∧ c5 = .int .i64 r6 ∧ c6 = .int .i64 r7 ∧ c7 = .slice L n mc ∧ c8 = .int .i64 r8 ∧ Pairs W W.heap.size L n ps ∧ n ≤ maxLen := by
  obtain ⟨m', get⟩ := sub_fields Tryz.underlying188 h
  obtain ⟨z0, g0⟩ := get 0 _ rfl
  have g0 : DataW.trod enc Tryz.prog W 0 (fun _ => true) true m' 2 (List.take (Tryz.prog.cellsOf 2) (List.drop 0 [c0, c1, c2, c3, c4, c5, c6, c7, c8])) = some z0 := g0
  rw [cells_int] at g0
  obtain ⟨z1, g1⟩ := get 1 _ rfl
  have g1 : DataW.trod enc Tryz.prog W 0 (fun _ => true) true m' 2 (List.take (Tryz.prog.cellsOf 2) (List.drop 1 [c0, c1, c2, c3, c4, c5, c6, c7, c8])) = some z1 := g1
  rw [cells_int] at g1
  obtain ⟨z2, g2⟩ := get 2 _ rfl
  have g2 : DataW.trod enc Tryz.prog W 0 (fun _ => true) true m' 2 (List.take (Tryz.prog.cellsOf 2) (List.drop 2 [c0, c1, c2, c3, c4, c5, c6, c7, c8])) = some z2 := g2
  rw [cells_int] at g2
  obtain ⟨z3, g3⟩ := get 3 _ rfl
  have g3 : DataW.trod enc Tryz.prog W 0 (fun _ => true) true m' 2 (List.take (Tryz.prog.cellsOf 2) (List.drop 3 [c0, c1, c2, c3, c4, c5, c6, c7, c8])) = some z3 := g3
  rw [cells_int] at g3
  obtain ⟨z4, g4⟩ := get 4 _ rfl
  have g4 : DataW.trod enc Tryz.prog W 0 (fun _ => true) true m' 57 (List.take (Tryz.prog.cellsOf 57) (List.drop 4 [c0, c1, c2, c3, c4, c5, c6, c7, c8])) = some z4 := g4
  rw [cells_stamp] at g4
  obtain ⟨z5, g5⟩ := get 5 _ rfl
  have g5 : DataW.trod enc Tryz.prog W 0 (fun _ => true) true m' 2 (List.take (Tryz.prog.cellsOf 2) (List.drop 6 [c0, c1, c2, c3, c4, c5, c6, c7, c8])) = some z5 := g5
  rw [cells_int] at g5
  obtain ⟨z6, g6⟩ := get 6 _ rfl
  have g6 : DataW.trod enc Tryz.prog W 0 (fun _ => true) true m' 58 (List.take (Tryz.prog.cellsOf 58) (List.drop 7 [c0, c1, c2, c3, c4, c5, c6, c7, c8])) = some z6 := g6
  rw [cells_sealsR] at g6
  obtain ⟨z7, g7⟩ := get 7 _ rfl
  have g7 : DataW.trod enc Tryz.prog W 0 (fun _ => true) true m' 2 (List.take (Tryz.prog.cellsOf 2) (List.drop 8 [c0, c1, c2, c3, c4, c5, c6, c7, c8])) = some z7 := g7
  rw [cells_int] at g7
  obtain ⟨r1, rfl⟩ := int_of (show DataW.trod enc Tryz.prog W 0 (fun _ => true) true m' 2 [c0] = some z0 from g0)
  obtain ⟨r2, rfl⟩ := int_of (show DataW.trod enc Tryz.prog W 0 (fun _ => true) true m' 2 [c1] = some z1 from g1)
  obtain ⟨r3, rfl⟩ := int_of (show DataW.trod enc Tryz.prog W 0 (fun _ => true) true m' 2 [c2] = some z2 from g2)
  obtain ⟨r4, rfl⟩ := int_of (show DataW.trod enc Tryz.prog W 0 (fun _ => true) true m' 2 [c3] = some z3 from g3)
  obtain ⟨r5, r6, rfl, rfl⟩ := two_of (show DataW.trod enc Tryz.prog W 0 (fun _ => true) true m' 57 [c4, c5] = some z4 from g4)
  obtain ⟨r7, rfl⟩ := int_of (show DataW.trod enc Tryz.prog W 0 (fun _ => true) true m' 2 [c6] = some z5 from g5)
  obtain ⟨L, n, mc, ps, rfl, hp, hm⟩ := pairs_of Tryz.underlying58 Tryz.underlying138 (by kernel_rfl) rfl rfl (by kernel_rfl) (by kernel_rfl) Tryz.underlying2 Tryz.underlying2 (show DataW.trod enc Tryz.prog W 0 (fun _ => true) true m' 58 [c7] = some z6 from g6)
  obtain ⟨r8, rfl⟩ := int_of (show DataW.trod enc Tryz.prog W 0 (fun _ => true) true m' 2 [c8] = some z7 from g7)
  exact ⟨r1, r2, r3, r4, r5, r6, r7, L, n, mc, r8, ps, rfl, rfl, rfl, rfl, rfl, rfl, rfl, rfl, rfl, hp, hm⟩

end Go.Proofs.YtjdepjpjjgkmbaaGreat

/- An open that comes in is read as four numbers, a list of opens as a list of them, a shelf as three numbers and two lists; no conditions. -/
namespace Go.Proofs.YtjdepjpjjgkmbaaGreat
set_option maxRecDepth 100000
open Go.ChangeShapes Go.WideShapes Go.ChangeAt Go.RowKit Go.Deep
set_option linter.unusedVariables false

end Go.Proofs.YtjdepjpjjgkmbaaGreat

/- A list of records that comes in is read as a list of records, each with its list of pairs; no conditions. -/
namespace Go.Proofs.YtjdepjpjjgkmbaaGreat
set_option maxRecDepth 100000
open Go.ChangeShapes Go.WideShapes Go.ChangeAt Go.RowKit Go.Deep
set_option linter.unusedVariables false

theorem recs_of {H : Type} {enc : TypeId × Value → H} {W : World} {fuel : Nat} {v : Value} {x : DataW H × List MemPlace} (h : DataW.trod enc Tryz.prog W 0 (fun _ => true) true fuel 48 [v] = some x) :
    ∃ (A : Option Addr) (n cap : Nat) (ds : List RecD), v = .slice A n cap ∧ RecsF ds W (· < W.heap.size) A n ∧ n ≤ maxLen := by
  rcases open_slice Tryz.underlying48 h with ⟨e4, _⟩ | ⟨a, len, cap, m, n, D, Pl, e4, _, hl, hm, hmm, _, hx⟩
  · simp only [List.cons.injEq, and_true] at e4
    subst e4
    exact ⟨none, 0, 0, [], rfl, ⟨rfl, fun h => absurd h (by omega)⟩, by unfold maxLen; omega⟩
  · simp only [List.cons.injEq, and_true] at e4
    subst e4
    have hmm : m = cap := by simpa using hmm
    have each : ∀ i, i < len → ∃ q : RecD × Option Addr × Nat × Nat, (∀ j v, (q.1.cells (.slice q.2.1 q.2.2.1 q.2.2.2))[j]? = some v → W.cell? (a.add (i * 9 + j)) = some v) ∧ PairsF W (· < W.heap.size) q.2.1 q.2.2.1 q.1.ps ∧ q.2.2.1 ≤ maxLen := by
      intro i hi
      obtain ⟨cs', h1, h2⟩ := hx i (by omega)
      rw [cells_rec] at h1
      obtain ⟨_, hlen, hcell⟩ := World.cells?_some h1
      match cs', hlen with
      | [c0, c1, c2, c3, c4, c5, c6, c7, c8], hl9 =>
        obtain ⟨r1, r2, r3, r4, r5, r6, r7, L, n, mc, r8, ps, rfl, rfl, rfl, rfl, rfl, rfl, rfl, rfl, rfl, hp, hm⟩ := nine_of h2
        refine ⟨(⟨r1, r2, r3, r4, r5, r6, r7, ps, r8⟩, L, n, mc), fun j v hv => ?_, hp.all, hm⟩
        have hj : j < 9 := (Array.getElem?_eq_some_iff.1 hv).1
        have e := hcell j hj
        rw [add_add] at e
        rw [e]
        simpa [RecD.cells] using hv
    haveI : Inhabited (RecD × Option Addr × Nat × Nat) := ⟨(⟨0, 0, 0, 0, 0, 0, 0, [], 0⟩, none, 0, 0)⟩
    obtain ⟨q, hq⟩ := choose_lt each
    refine ⟨some a, len, cap, (List.range len).map fun i => (q i).1, rfl, ⟨by simp, fun hn => ?_⟩, by omega⟩
    obtain ⟨b, o, spot⟩ := a
    have hs : spot = none := by
      have := (hq 0 (by omega)).1 0 _ rfl
      simpa [Addr.add] using World.cell?_spot this
    subst hs
    have ea : ∀ i, (⟨b, o, none⟩ : Addr).add i = ⟨b, o + i, none⟩ := fun i => by
      unfold Addr.add
      split
      · simp_all
      · rfl
    have hb : b < W.heap.size := by
      have := block_lt_of_cell ((hq 0 (by omega)).1 0 _ rfl)
      rw [ea] at this
      exact this
    refine ⟨b, o, rfl, hb, hb, fun i hi => ?_⟩
    have hi' : i < len := by simpa using hi
    obtain ⟨h0, h1, h2⟩ := hq i hi'
    have ep : ((List.range len).map fun i => (q i).1)[i] = (q i).1 := by simp
    rw [ep]
    have C : ∀ j v, ((q i).1.cells (.slice (q i).2.1 (q i).2.2.1 (q i).2.2.2))[j]? = some v → W.cell? ⟨b, o + i * 9 + j, none⟩ = some v := fun j v hv => by
      have := h0 j v hv
      rw [ea, show o + (i * 9 + j) = o + i * 9 + j by omega] at this
      exact this
    exact ⟨(q i).2.1, (q i).2.2.1, (q i).2.2.2, ⟨C 0 _ rfl, C 1 _ rfl, C 2 _ rfl, C 3 _ rfl, C 4 _ rfl, C 5 _ rfl, C 6 _ rfl, C 7 _ rfl, C 8 _ rfl⟩, h2, h1⟩

end Go.Proofs.YtjdepjpjjgkmbaaGreat

/- A journal that comes in is read as two lists of records; no conditions. -/
namespace Go.Proofs.YtjdepjpjjgkmbaaGreat
set_option maxRecDepth 100000
open Go.ChangeShapes Go.WideShapes Go.ChangeAt Go.RowKit Go.Deep
set_option linter.unusedVariables false

theorem cells_recs : Tryz.prog.cellsOf 48 = 1 := by kernel_rfl
theorem cells_jour : Tryz.prog.cellsOf 50 = 2 := by kernel_rfl
/-- What the reading of a journal that came in tells. -/
theorem jour_read {H : Type} {enc : TypeId × Value → H} {W : World} {r : Reach} {b0 : Nat} {v : Value} {d : DataW H} {p : List MemPlace} (hv : Value.okWide Tryz.prog W r b0 50 v) (h : DataW.Trod enc Tryz.prog W 0 (fun _ => true) true 50 v d p) :
    ∃ (A : Option Addr) (n c : Nat) (A' : Option Addr) (n' c' : Nat) (ks ls : List RecD), v = .agg #[.slice A n c, .slice A' n' c'] ∧ RecsF ks W (· < W.heap.size) A n ∧ n ≤ maxLen ∧ RecsF ls W (· < W.heap.size) A' n' ∧ n' ≤ maxLen := by
  obtain ⟨cs, rfl, hsz⟩ := okWide_struct Tryz.underlying50 hv
  obtain ⟨y0⟩ := cs
  have h5 : y0.length = 2 := by simpa using hsz.trans cells_jour
  obtain ⟨fuel, hf⟩ := h
  have hf : DataW.trod enc Tryz.prog W 0 (fun _ => true) true fuel 50 y0 = some (d, p) := hf
  match y0, h5 with
  | [c0, c1], _ =>
    obtain ⟨m', get⟩ := sub_fields Tryz.underlying50 hf
    obtain ⟨z0, g0⟩ := get 0 _ rfl
    have g0 : DataW.trod enc Tryz.prog W 0 (fun _ => true) true m' 48 (List.take (Tryz.prog.cellsOf 48) (List.drop 0 [c0, c1])) = some z0 := g0
    rw [cells_recs] at g0
    obtain ⟨z1, g1⟩ := get 1 _ rfl
    have g1 : DataW.trod enc Tryz.prog W 0 (fun _ => true) true m' 48 (List.take (Tryz.prog.cellsOf 48) (List.drop 1 [c0, c1])) = some z1 := g1
    rw [cells_recs] at g1
    obtain ⟨A, n, c, ks, rfl, h1, m1⟩ := recs_of (show DataW.trod enc Tryz.prog W 0 (fun _ => true) true m' 48 [c0] = some z0 from g0)
    obtain ⟨A', n', c', ls, rfl, h2, m2⟩ := recs_of (show DataW.trod enc Tryz.prog W 0 (fun _ => true) true m' 48 [c1] = some z1 from g1)
    exact ⟨A, n, c, A', n', c', ks, ls, rfl, h1, m1, h2, m2⟩
end Go.Proofs.YtjdepjpjjgkmbaaGreat

namespace Go.Proofs.YtjdepjpjjgkmbaaGreat
open Go.ChangeShapes Go.WideShapes Go.ChangeAt Go.RowKit Go.Deep
set_option linter.unusedVariables false

namespace fnExactJournalOkF
set_option maxRecDepth 100000 in
theorem lifted (os : Os) (started : os.Started) (H : Type) (enc : TypeId × Value → H) :
    ReturnsInHanded {} Tryz.checked os 5 .any (Rows.fnExactJournalOkSpec.pre6 enc Tryz.prog Tryz.f5 Rows.fnExactJournalOkRow.domain false) (Rows.fnExactJournalOkSpec.post enc Tryz.prog Tryz.f5 false true false false) := by
  refine returnsInHanded_of_change (C := Tryz.checked) own started (by kernel_rfl) Tryz.func5
    (ChangeSpec.witness6 (enc := enc) (C := Tryz.checked) false ⟨#[], #[.agg #[.int .i64 0, .int .i64 0, .int .i64 0, .int .i64 0, .slice none 0 0], .agg #[.slice none 0 0, .slice none 0 0]], []⟩ 8 (by kernel_rfl) (by kernel_rfl) (by kernel_rfl) (by kernel_rfl)) ?_
  intro W base args ds gs before hval0 hW hcnd _
  have hval : ∀ (j : Nat) t v, Tryz.f5.params[j]? = some t → args[j]? = some v → Value.okWide Tryz.prog W .any base t v := hval0
  have hW' := hW
  obtain ⟨p, q, hA0, hV, rfl, hfz, hnd⟩ := hW
  have hA : DataW.TrodAll enc Tryz.prog W 0 (fun _ => true) true Tryz.f5.params.toList args.toList ds p := hA0
  rw [Tryz.params5] at hA hval
  obtain ⟨v0, vs0, d0, ds0, p0, q0, hargs, rfl, rfl, h0, r0⟩ := trodAll_cons hA
  obtain ⟨v1, vs1, d1, ds1, p1, q1, rfl, rfl, rfl, h1, r1⟩ := trodAll_cons r0
  obtain ⟨rfl, rfl, rfl⟩ := trodAll_nil r1
  obtain rfl : args = #[v0, v1] := by cases args; simp_all
  obtain ⟨rfl, rfl⟩ := trodVars_none hV
  have t0 := h0
  have lt0 : ∀ x ∈ p0, x.block < W.heap.size := by obtain ⟨m, hm⟩ := t0; exact DataW.trod_lt m _ _ _ hm
  obtain ⟨s0, l0, c0, sh0, A0, n0, cap0, zs0, rfl, hp0, hm0⟩ := group_read (hval 0 47 v0 rfl rfl) h0
  have t1 := h1
  have lt1 : ∀ x ∈ p1, x.block < W.heap.size := by obtain ⟨m, hm⟩ := t1; exact DataW.trod_lt m _ _ _ hm
  obtain ⟨KA1, kn1, kc1, LA1, ln1, lc1, ks1, ls1, rfl, hp1, hm1, hq1, hmq1⟩ := jour_read (hval 1 50 v1 rfl rfl) h1
  clear hA0 hval0
  have walk : Calls Tryz.prog 5 #[.agg #[.int .i64 s0, .int .i64 l0, .int .i64 c0, .int .i64 sh0, .slice A0 n0 cap0], .agg #[.slice KA1 kn1 kc1, .slice LA1 ln1 lc1]] W fun e w' => e = .returned (.bool true) ∧ Below W.heap.size W w' := by
    exact exactJourOk_any _ _ ⟨s0, l0, c0, sh0, zs0⟩ ⟨ks1, ls1⟩ W ⟨A0, n0, cap0, rfl, hm0, hp0.all⟩ ⟨KA1, kn1, kc1, LA1, ln1, lc1, rfl, hm1, hmq1, hp1, hq1⟩
  refine walk.mono fun e W' ⟨he, bel⟩ => ?_
  subst he
  exact ⟨_, rfl, _, _, _, [], _, [], hW', trodAll_mk1 (shut_bool Tryz.underlying4 _), (trodAll_cons_mk (Below.trod laidOut (by kernel_rfl) (of_decide_eq_true (by kernel_rfl)) t0 bel lt0) (trodAll_cons_mk (Below.trod laidOut (by kernel_rfl) (of_decide_eq_true (by kernel_rfl)) t1 bel lt1) trodAll_mk0)), rfl, bel.frame _, fun h => by cases h⟩

theorem proved : Rows.FnExactJournalOkSaid :=
  OpenClaim.holds_of_wide 5 Tryz.f5 rfl rfl rfl rfl rfl rfl rfl ⟨rfl, rfl, rfl, rfl, rfl⟩ rfl rfl rfl rfl rfl (by kernel_rfl) Tryz.func5 (by kernel_rfl)
    (of_decide_eq_true (by kernel_rfl)) (by unfold Func.isWrapper; first | (rw [if_pos (by decide +kernel)]; kernel_rfl) | (rw [if_neg (by decide +kernel)]; exact ⟨rfl, rfl⟩))
    (fun os started H enc _ => lifted os started H enc)
end fnExactJournalOkF

theorem fnExactJournalOk_holds : Rows.FnExactJournalOkSaid := fnExactJournalOkF.proved
end Go.Proofs.YtjdepjpjjgkmbaaGreat
