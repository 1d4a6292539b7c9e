/- The exact law of OpenOf answers true, whatever it is given: its walk. -/
import Derived.Test.YtghdnokjgmmgiaaCopiesReg
import Derived.Test.YtghdnokjgmmgiaaReg1
import Derived.Test.YtghdnokjgmmgiaaLawsJoin
namespace Go.Proofs.Ytghdnokjgmmgiaa
open Go.RowKit

theorem opV_form (g : Option Opn) : ∃ (a b c d : Int) (f : Bool), opV g = .tuple #[.agg #[.int .i64 a, .int .i64 b, .int .i64 c, .int .i64 d], .bool f] := by
  cases g with
  | none => exact ⟨_, _, _, _, _, rfl⟩
  | some o => exact ⟨_, _, _, _, _, rfl⟩

set_option maxRecDepth 100000 in
set_option maxHeartbeats 4000000 in
theorem exactOpenOf_small (rt rq rv : Int) (P : Option Addr) (p pc : Nat) (Q : Option Addr) (q qc : Nat) (ps : List (Int × Int)) (os : List Opn) (x : Int) (w : World) (hm : p + q ≤ 1048576) (h1 : Pairs w w.heap.size P p ps) (h3 : Quads w w.heap.size Q q os) :
    Calls Try.prog 5 #[.agg #[.int .i64 rt, .int .i64 rq, .int .i64 rv, .slice P p pc, .slice Q q qc], .int .i64 x] w fun e w' => e = .returned (.bool true) ∧ Below w.heap.size w w' := by
  have hp : p ≤ 1048576 := by omega
  have hq : q ≤ 1048576 := by omega
  have hnn : ¬ ((1048576 : Int) - p - q < 0) := by omega
  have D := Box.new w 45 #[.int .i64 rt, .int .i64 rq, .int .i64 rv, .slice P p pc, .slice Q q qc]
  have hb0 := bel_alloc w (.cells #[.int .i64 rt, .int .i64 rq, .int .i64 rv, .slice P p pc, .slice Q q qc] 45)
  obtain ⟨a, b, c, d, f, hv⟩ := opV_form (getO os x)
  have HV := Lib.hid hv
  have HL1 := Lib.hid h1.1
  have HL3 := Lib.hid h3.1
  have H1 := Lib.hid h1
  have H3 := Lib.hid h3
  clear h1 h3 hv
  go_enter Try.func5, Try.ntmps5
  go_wp2_with fail
  generalize (w.alloc _ : World) = w0 at D hb0 ⊢
  refine (szReg_le rt rq rv P p pc Q q qc 1048576 w0 (by omega) (by omega)).mono ?_
  rintro e w1 ⟨rfl, hb1⟩
  have D1 := D.later hb1 D.lt
  have E1 := bel_trans hb0 hb1
  clear D hb0 hb1
  obtain ⟨a0, a1, a2, a3, a4⟩ := D1.five
  go_wp2_with fail
  refine (toReg_any rt rq rv P p pc Q q qc ps os w1 hp hq (H1.out.later E1) (H3.out.later E1)).mono ?_
  rintro e w2 ⟨g, h, hg, hgh, rfl, _, hh2, hb2⟩
  have D2 := D1.later hb2 D1.lt
  have E2 := bel_trans E1 hb2
  clear D1 E1 hb2 a0 a1 a2 a3 a4
  go_wp2_with fail
  refine (specOpenOf_is rt rq rv _ p p _ q q os x w2 (by omega) (hh2.qds HL3.out)).mono ?_
  rintro e w3 ⟨rfl, hb3⟩
  rw [HV.out]
  have D3 := D2.later hb3 D2.lt
  have E3 := bel_trans E2 hb3
  clear D2 E2 hb3 hh2
  have Y := Box.new w3 31 #[.int .i64 a, .int .i64 b, .int .i64 c, .int .i64 d]
  have hb4 := bel_alloc w3 (.cells #[.int .i64 a, .int .i64 b, .int .i64 c, .int .i64 d] 31)
  obtain ⟨a0, a1, a2, a3, a4⟩ := D3.five
  have hD3 := D3.lt
  go_wp2_with fail
  have D4 := D3.later hb4 D3.lt
  have E4 := bel_trans E3 hb4
  generalize (w3.alloc _ : World) = w4 at Y hb4 D4 E4 ⊢
  generalize w3.heap.size = S at Y hD3 ⊢
  clear D3 E3 hb4 a0 a1 a2 a3 a4
  refine (toReg_any rt rq rv P p pc Q q qc ps os w4 hp hq (H1.out.later E4) (H3.out.later E4)).mono ?_
  rintro e w5 ⟨g5, h5, hg5, hgh5, rfl, hk5, hh5, hb5⟩
  have D5 := D4.later hb5 D4.lt
  have Y5 := Y.later hb5 Y.lt
  have E5 := bel_trans E4 hb5
  clear D4 E4 hb5 Y
  have X := Box.new w5 29 #[.int .i64 rt, .int .i64 rq, .int .i64 rv, .slice (some ⟨g5, 0, none⟩) p p, .slice (some ⟨h5, 0, none⟩) q q]
  have hb6 := bel_alloc w5 (.cells #[.int .i64 rt, .int .i64 rq, .int .i64 rv, .slice (some ⟨g5, 0, none⟩) p p, .slice (some ⟨h5, 0, none⟩) q q] 29)
  have hD5 := D5.lt
  have hY5 := Y5.lt
  go_wp2_with fail
  have D6 := D5.later hb6 D5.lt
  have Y6 := Y5.later hb6 Y5.lt
  have E6 := bel_trans E5 hb6
  have hk6 := hk5.later hb6
  have hh6 := hh5.later hb6
  generalize (w5.alloc _ : World) = w6 at X hb6 D6 Y6 E6 hk6 hh6 ⊢
  generalize w5.heap.size = R at X hD5 hY5 ⊢
  clear D5 Y5 E5 hb6 hk5 hh5 hg5
  refine (openOf_is rt rq rv _ p p _ q q os x w6 (by omega) (hh6.qds HL3.out)).mono ?_
  rintro e w7 ⟨rfl, hb7⟩
  rw [HV.out]
  have D7 := D6.later hb7 D6.lt
  have Y7 := Y6.later hb7 Y6.lt
  have X7 := X.later hb7 X.lt
  have E7 := bel_trans E6 hb7
  have hk7 := hk6.later hb7
  have hh7 := hh6.later hb7
  clear D6 Y6 X E6 hb7 hk6 hh6
  have Z := Box.new w7 31 #[.int .i64 a, .int .i64 b, .int .i64 c, .int .i64 d]
  have hb8 := bel_alloc w7 (.cells #[.int .i64 a, .int .i64 b, .int .i64 c, .int .i64 d] 31)
  obtain ⟨y0, y1, y2, y3⟩ := Y7.four
  have hY7 := Y7.lt
  go_wp2_with fail
  have D8 := D7.later hb8 D7.lt
  have X8 := X7.later hb8 X7.lt
  have E8 := bel_trans E7 hb8
  have hk8 := hk7.later hb8
  have hh8 := hh7.later hb8
  generalize (w7.alloc _ : World) = w8 at Z hb8 D8 X8 E8 hk8 hh8 ⊢
  clear D7 Y7 X7 E7 hb8 hk7 hh7 y0 y1 y2 y3
  refine (eqOpen_same a b c d w8).mono ?_
  rintro e w9 ⟨rfl, hb9⟩
  have D9 := D8.later hb9 D8.lt
  have X9 := X8.later hb9 X8.lt
  have E9 := bel_trans E8 hb9
  have hk9 := hk8.later hb9
  have hh9 := hh8.later hb9
  clear D8 X8 E8 hb9 hk8 hh8 Z
  obtain ⟨a0, a1, a2, a3, a4⟩ := D9.five
  obtain ⟨x0, x1, x2, x3, x4⟩ := X9.five
  have P9 := H1.out.later E9
  have Q9 := H3.out.later E9
  cases f
  all_goals (
    go_wp2_with fail
    go_region_held3 (fun w' => w'.cell? ⟨w.heap.size, 0, none⟩ = some (.int .i64 rt) ∧ w'.cell? ⟨w.heap.size, 1, none⟩ = some (.int .i64 rq) ∧ w'.cell? ⟨w.heap.size, 2, none⟩ = some (.int .i64 rv) ∧ w'.cell? ⟨w.heap.size, 3, none⟩ = some (.slice P p pc) ∧ w'.cell? ⟨w.heap.size, 4, none⟩ = some (.slice Q q qc) ∧ w'.cell? ⟨R, 0, none⟩ = some (.int .i64 rt) ∧ w'.cell? ⟨R, 1, none⟩ = some (.int .i64 rq) ∧ w'.cell? ⟨R, 2, none⟩ = some (.int .i64 rv) ∧ w'.cell? ⟨R, 3, none⟩ = some (.slice (some ⟨g5, 0, none⟩) p p) ∧ w'.cell? ⟨R, 4, none⟩ = some (.slice (some ⟨h5, 0, none⟩) q q)) (first | (with_reducible exact KB) | (with_reducible exact KA) | go_keep)
      (first
        | (go_at_call 17; refine (toReg_any rt rq rv P p pc Q q qc ps os _ hp hq ?_ ?_).mono ?_; exact P9; exact Q9; rintro e wa ⟨ga, ha, hga, hgha, rfl, hka, hha, hba⟩; have FA := bel_drew' hba; have hkA := hk9.later FA; have hhA := hh9.later FA; have KA := ten (D9.later FA D9.lt) (X9.later FA X9.lt))
        | (go_at_call 20; refine (eqReg_same rt rq rv _ _ p p p _ _ q q q ps os _ hp (by omega) (hkA.prs HL1.out) (hka.prs HL1.out) (hhA.qds HL3.out) (hha.qds HL3.out)).mono ?_; rintro e wb ⟨rfl, hbb⟩; have FB := bel_trans FA hbb; have KB := ten (D9.later FB D9.lt) (X9.later FB X9.lt)))
    have EB := bel_trans E9 FB
    go_wp2
    go_ret
    exact ⟨rfl, EB⟩)

theorem exactOpenOf_big (rt rq rv : Int) (P : Option Addr) (p pc : Nat) (Q : Option Addr) (q qc : Nat) (x : Int) (w : World) (hx : p ≤ maxLen) (hy : q ≤ maxLen) (hm : 1048576 < p + q) :
    Calls Try.prog 5 #[.agg #[.int .i64 rt, .int .i64 rq, .int .i64 rv, .slice P p pc, .slice Q q qc], .int .i64 x] w fun e w' => e = .returned (.bool true) ∧ Below w.heap.size w w' := by
  go_enter Try.func5, Try.ntmps5
  go_wp2_with (go_at_call 14; refine (szReg_gt rt rq rv P p pc Q q qc 1048576 _ (by omega) (by omega) (by omega) hx hy).mono ?_; rintro e w1 ⟨rfl, hb1⟩; have E1 := bel_trans (bel_alloc w (.cells #[.int .i64 rt, .int .i64 rq, .int .i64 rv, .slice P p pc, .slice Q q qc] 45)) hb1)
  go_ret
  exact ⟨rfl, E1⟩

end Go.Proofs.Ytghdnokjgmmgiaa
