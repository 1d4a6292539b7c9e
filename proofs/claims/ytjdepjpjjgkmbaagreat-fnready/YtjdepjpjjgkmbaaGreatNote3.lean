/- What kindOk of impl/l05_note.go answers: its contract (written by note3.py). -/
import Derived.Test.YtjdepjpjjgkmbaaGreatNote2
import Derived.Test.YtjdepjpjjgkmbaaGreatNoteShape
namespace Go.Proofs.YtjdepjpjjgkmbaaGreat
open Go.RowKit

section
variable {N : Array Value} {k1 k2 k3 k4 k5 t1 t2 v1 o1 o2 v2 : Int} {P : Option Addr} {p pc : Nat} {Q : Option Addr} {q qc : Nat} {l1 l2 v3 : Int}
theorem hasValueN_is (hN : N = #[.int .i64 k1, .int .i64 k2, .int .i64 k3, .int .i64 k4, .int .i64 k5, .int .i64 t1, .int .i64 t2, .int .i64 v1, .int .i64 o1, .int .i64 o2, .int .i64 v2, .slice P p pc, .slice Q q qc, .int .i64 l1, .int .i64 l2, .int .i64 v3]) {b : Bool} (h : hvB t1 t2 v1 p = b) (w : World) :
    Calls Tryz.prog 240 #[.agg N] w fun e w' => e = .returned (.bool b) ∧ Below w.heap.size w w' := by subst hN; exact h ▸ hasValue_is k1 k2 k3 k4 k5 t1 t2 v1 o1 o2 v2 P p pc Q q qc l1 l2 v3 w
theorem hasPastN_is (hN : N = #[.int .i64 k1, .int .i64 k2, .int .i64 k3, .int .i64 k4, .int .i64 k5, .int .i64 t1, .int .i64 t2, .int .i64 v1, .int .i64 o1, .int .i64 o2, .int .i64 v2, .slice P p pc, .slice Q q qc, .int .i64 l1, .int .i64 l2, .int .i64 v3]) {b : Bool} (h : hpB o1 o2 v2 l1 l2 v3 q = b) (w : World) :
    Calls Tryz.prog 241 #[.agg N] w fun e w' => e = .returned (.bool b) ∧ Below w.heap.size w w' := by subst hN; exact h ▸ hasPast_is k1 k2 k3 k4 k5 t1 t2 v1 o1 o2 v2 P p pc Q q qc l1 l2 v3 w
theorem stampsOkN_is (hN : N = #[.int .i64 k1, .int .i64 k2, .int .i64 k3, .int .i64 k4, .int .i64 k5, .int .i64 t1, .int .i64 t2, .int .i64 v1, .int .i64 o1, .int .i64 o2, .int .i64 v2, .slice P p pc, .slice Q q qc, .int .i64 l1, .int .i64 l2, .int .i64 v3]) {b : Bool} (h : stsB t1 t2 o1 o2 l1 l2 = b) (w : World) :
    Calls Tryz.prog 230 #[.agg N] w fun e w' => e = .returned (.bool b) ∧ Below w.heap.size w w' := by subst hN; exact h ▸ stampsOk_is k1 k2 k3 k4 k5 t1 t2 v1 o1 o2 v2 P p pc Q q qc l1 l2 v3 w
theorem valuesOkN_is (hN : N = #[.int .i64 k1, .int .i64 k2, .int .i64 k3, .int .i64 k4, .int .i64 k5, .int .i64 t1, .int .i64 t2, .int .i64 v1, .int .i64 o1, .int .i64 o2, .int .i64 v2, .slice P p pc, .slice Q q qc, .int .i64 l1, .int .i64 l2, .int .i64 v3]) {b : Bool} (h : valsB v1 v2 v3 = b) (w : World) :
    Calls Tryz.prog 231 #[.agg N] w fun e w' => e = .returned (.bool b) ∧ Below w.heap.size w w' := by subst hN; exact h ▸ valuesOk_is k1 k2 k3 k4 k5 t1 t2 v1 o1 o2 v2 P p pc Q q qc l1 l2 v3 w
end
theorem serverB_is {s l c sh : Int} {zs : List Int} {x : Int} {b : Bool} (h : srvB s l c sh zs x = b) (A : Option Addr) (n cap : Nat) (w : World) (hm : n ≤ maxLen) (hr : Row w w.heap.size A n zs) :
    Calls Tryz.prog 118 #[.agg #[.int .i64 s, .int .i64 l, .int .i64 c, .int .i64 sh, .slice A n cap], .int .i64 x] w fun e w' => e = .returned (.bool b) ∧ Below w.heap.size w w' := h ▸ server_any s l c sh A n cap zs x w hm hr
theorem clientB_is {s l c sh : Int} {zs : List Int} {x : Int} {b : Bool} (h : cliB s l c sh zs x = b) (A : Option Addr) (n cap : Nat) (w : World) (hm : n ≤ maxLen) (hr : Row w w.heap.size A n zs) :
    Calls Tryz.prog 224 #[.agg #[.int .i64 s, .int .i64 l, .int .i64 c, .int .i64 sh, .slice A n cap], .int .i64 x] w fun e w' => e = .returned (.bool b) ∧ Below w.heap.size w w' := h ▸ client_any s l c sh A n cap zs x w hm hr

theorem kd_1 {s l c sh : Int} {zs : List Int} {k2 k3 : Int} {hv hp : Bool} : kdB s l c sh zs 1 k2 k3 hv hp = (!hv && !hp && cliB s l c sh zs k2 && srvB s l c sh zs k3) := rfl
theorem kd_5 {s l c sh : Int} {zs : List Int} {k2 k3 : Int} {hv hp : Bool} : kdB s l c sh zs 5 k2 k3 hv hp = (!hp && cliB s l c sh zs k2 && srvB s l c sh zs k3) := rfl
theorem kd_3 {s l c sh : Int} {zs : List Int} {k2 k3 : Int} {hv hp : Bool} : kdB s l c sh zs 3 k2 k3 hv hp = (cliB s l c sh zs k2 && srvB s l c sh zs k3) := rfl
theorem kd_e {s l c sh : Int} {zs : List Int} {k1 k2 k3 : Int} {hv hp : Bool} (h : k1 = 2 ∨ k1 = 4 ∨ k1 = 6) : kdB s l c sh zs k1 k2 k3 hv hp = (!hp && srvB s l c sh zs k2 && cliB s l c sh zs k3) := by
  rcases h with rfl | rfl | rfl <;> rfl
theorem kd_no {s l c sh : Int} {zs : List Int} {k1 k2 k3 : Int} {hv hp : Bool} (h1 : k1 ≠ 1) (h2 : k1 ≠ 2) (h3 : k1 ≠ 3) (h4 : k1 ≠ 4) (h5 : k1 ≠ 5) (h6 : k1 ≠ 6) : kdB s l c sh zs k1 k2 k3 hv hp = false := by
  simp [kdB, h1, h2, h3, h4, h5, h6]

set_option maxHeartbeats 4000000 in
theorem kindOk_1 {N : Array Value} {k2 k3 k4 k5 t1 t2 v1 o1 o2 v2 : Int} {P : Option Addr} {p pc : Nat} {Q : Option Addr} {q qc : Nat} {l1 l2 v3 : Int} (hN : N = #[.int .i64 1, .int .i64 k2, .int .i64 k3, .int .i64 k4, .int .i64 k5, .int .i64 t1, .int .i64 t2, .int .i64 v1, .int .i64 o1, .int .i64 o2, .int .i64 v2, .slice P p pc, .slice Q q qc, .int .i64 l1, .int .i64 l2, .int .i64 v3]) (s l c sh : Int) (A : Option Addr) (n cap : Nat) (zs : List Int) (w : World) (hm : n ≤ maxLen) (hr : Row w w.heap.size A n zs) :
    Calls Tryz.prog 233 #[.agg N, .agg #[.int .i64 s, .int .i64 l, .int .i64 c, .int .i64 sh, .slice A n cap]] w fun e w' => e = .returned (.bool (kdB s l c sh zs 1 k2 k3 (hvB t1 t2 v1 p) (hpB o1 o2 v2 l1 l2 v3 q))) ∧ Below w.heap.size w w' := by
  have K0 := NG.start w 85 26 N #[.int .i64 s, .int .i64 l, .int .i64 c, .int .i64 sh, .slice A n cap] A n zs hr
  have HZ := Lib.hid (sizeN hN)
  obtain ⟨n0, n1, n2, n3, n4, n5, n6, n7, n8, n9, n10, n11, n12, n13, n14, n15⟩ := cellsN hN
  have HN := Lib.hid hN
  have HM := Lib.hid hm
  have cN := K0.nb.cell
  obtain ⟨g0, g1, g2, g3, g4⟩ := K0.gb.five
  clear hr hm hN
  rw [kd_1]
  rcases h1 : hvB t1 t2 v1 p with _ | _
  rotate_left
  · have H1 := Lib.hid h1
    clear h1
    go_enter Tryz.func233, Tryz.ntmps233
    go_wp2_with (refine wpList_load_box 85 _ rfl w.heap.size rfl 85 N K0.nb _ Tryz.underlying85 rfl HZ.out (by simp [Region.wanted, yielded]) ?_)
    generalize ((w.alloc _).alloc _ : World) = w0 at K0 cN g0 g1 g2 g3 g4 ⊢
    refine (hasValueN_is HN.out H1.out w0).mono ?_
    rintro e w1 ⟨rfl, hb⟩
    have K1 := K0.later hb
    clear hb K0 cN g0 g1 g2 g3 g4
    have E := K1.bel
    clear K1
    go_wp2
    go_ret
    exact ⟨rfl, E⟩
  rcases h2 : hpB o1 o2 v2 l1 l2 v3 q with _ | _
  rotate_left
  · have H1 := Lib.hid h1
    have H2 := Lib.hid h2
    clear h1 h2
    go_enter Tryz.func233, Tryz.ntmps233
    go_wp2_with (refine wpList_load_box 85 _ rfl w.heap.size rfl 85 N K0.nb _ Tryz.underlying85 rfl HZ.out (by simp [Region.wanted, yielded]) ?_)
    generalize ((w.alloc _).alloc _ : World) = w0 at K0 cN g0 g1 g2 g3 g4 ⊢
    refine (hasValueN_is HN.out H1.out w0).mono ?_
    rintro e w1 ⟨rfl, hb⟩
    have K1 := K0.later hb
    clear hb K0 cN g0 g1 g2 g3 g4
    have cN := K1.nb.cell
    obtain ⟨g0, g1, g2, g3, g4⟩ := K1.gb.five
    go_wp2_with (refine wpList_load_box 85 _ rfl w.heap.size rfl 85 N K1.nb _ Tryz.underlying85 rfl HZ.out (by simp [Region.wanted, yielded]) ?_)
    refine (hasPastN_is HN.out H2.out w1).mono ?_
    rintro e w2 ⟨rfl, hb⟩
    have K2 := K1.later hb
    clear hb K1 cN g0 g1 g2 g3 g4
    have E := K2.bel
    clear K2
    go_wp2
    go_ret
    exact ⟨rfl, E⟩
  rcases h3 : cliB s l c sh zs k2 with _ | _
  · have H1 := Lib.hid h1
    have H2 := Lib.hid h2
    have H3 := Lib.hid h3
    clear h1 h2 h3
    go_enter Tryz.func233, Tryz.ntmps233
    go_wp2_with (refine wpList_load_box 85 _ rfl w.heap.size rfl 85 N K0.nb _ Tryz.underlying85 rfl HZ.out (by simp [Region.wanted, yielded]) ?_)
    generalize ((w.alloc _).alloc _ : World) = w0 at K0 cN g0 g1 g2 g3 g4 ⊢
    refine (hasValueN_is HN.out H1.out w0).mono ?_
    rintro e w1 ⟨rfl, hb⟩
    have K1 := K0.later hb
    clear hb K0 cN g0 g1 g2 g3 g4
    have cN := K1.nb.cell
    obtain ⟨g0, g1, g2, g3, g4⟩ := K1.gb.five
    go_wp2_with (refine wpList_load_box 85 _ rfl w.heap.size rfl 85 N K1.nb _ Tryz.underlying85 rfl HZ.out (by simp [Region.wanted, yielded]) ?_)
    refine (hasPastN_is HN.out H2.out w1).mono ?_
    rintro e w2 ⟨rfl, hb⟩
    have K2 := K1.later hb
    clear hb K1 cN g0 g1 g2 g3 g4
    have cN := K2.nb.cell
    obtain ⟨g0, g1, g2, g3, g4⟩ := K2.gb.five
    go_wp2_with (refine wpList_load_box 85 _ rfl w.heap.size rfl 85 N K2.nb _ Tryz.underlying85 rfl HZ.out (by simp [Region.wanted, yielded]) ?_)
    refine (clientB_is H3.out A n cap w2 HM.out K2.row).mono ?_
    rintro e w3 ⟨rfl, hb⟩
    have K3 := K2.later hb
    clear hb K2 cN g0 g1 g2 g3 g4
    have E := K3.bel
    clear K3
    go_wp2
    go_ret
    exact ⟨rfl, E⟩
  generalize h4 : srvB s l c sh zs k3 = b4
  have H1 := Lib.hid h1
  have H2 := Lib.hid h2
  have H3 := Lib.hid h3
  have H4 := Lib.hid h4
  clear h1 h2 h3 h4
  go_enter Tryz.func233, Tryz.ntmps233
  go_wp2_with (refine wpList_load_box 85 _ rfl w.heap.size rfl 85 N K0.nb _ Tryz.underlying85 rfl HZ.out (by simp [Region.wanted, yielded]) ?_)
  generalize ((w.alloc _).alloc _ : World) = w0 at K0 cN g0 g1 g2 g3 g4 ⊢
  refine (hasValueN_is HN.out H1.out w0).mono ?_
  rintro e w1 ⟨rfl, hb⟩
  have K1 := K0.later hb
  clear hb K0 cN g0 g1 g2 g3 g4
  have cN := K1.nb.cell
  obtain ⟨g0, g1, g2, g3, g4⟩ := K1.gb.five
  go_wp2_with (refine wpList_load_box 85 _ rfl w.heap.size rfl 85 N K1.nb _ Tryz.underlying85 rfl HZ.out (by simp [Region.wanted, yielded]) ?_)
  refine (hasPastN_is HN.out H2.out w1).mono ?_
  rintro e w2 ⟨rfl, hb⟩
  have K2 := K1.later hb
  clear hb K1 cN g0 g1 g2 g3 g4
  have cN := K2.nb.cell
  obtain ⟨g0, g1, g2, g3, g4⟩ := K2.gb.five
  go_wp2_with (refine wpList_load_box 85 _ rfl w.heap.size rfl 85 N K2.nb _ Tryz.underlying85 rfl HZ.out (by simp [Region.wanted, yielded]) ?_)
  refine (clientB_is H3.out A n cap w2 HM.out K2.row).mono ?_
  rintro e w3 ⟨rfl, hb⟩
  have K3 := K2.later hb
  clear hb K2 cN g0 g1 g2 g3 g4
  have cN := K3.nb.cell
  obtain ⟨g0, g1, g2, g3, g4⟩ := K3.gb.five
  go_wp2_with (refine wpList_load_box 85 _ rfl w.heap.size rfl 85 N K3.nb _ Tryz.underlying85 rfl HZ.out (by simp [Region.wanted, yielded]) ?_)
  refine (serverB_is H4.out A n cap w3 HM.out K3.row).mono ?_
  rintro e w4 ⟨rfl, hb⟩
  have K4 := K3.later hb
  clear hb K3 cN g0 g1 g2 g3 g4
  have E := K4.bel
  clear K4
  go_wp2
  go_ret
  exact ⟨by cases b4 <;> rfl, E⟩

set_option maxHeartbeats 4000000 in
theorem kindOk_5 {N : Array Value} {k2 k3 k4 k5 t1 t2 v1 o1 o2 v2 : Int} {P : Option Addr} {p pc : Nat} {Q : Option Addr} {q qc : Nat} {l1 l2 v3 : Int} (hN : N = #[.int .i64 5, .int .i64 k2, .int .i64 k3, .int .i64 k4, .int .i64 k5, .int .i64 t1, .int .i64 t2, .int .i64 v1, .int .i64 o1, .int .i64 o2, .int .i64 v2, .slice P p pc, .slice Q q qc, .int .i64 l1, .int .i64 l2, .int .i64 v3]) (s l c sh : Int) (A : Option Addr) (n cap : Nat) (zs : List Int) (w : World) (hm : n ≤ maxLen) (hr : Row w w.heap.size A n zs) :
    Calls Tryz.prog 233 #[.agg N, .agg #[.int .i64 s, .int .i64 l, .int .i64 c, .int .i64 sh, .slice A n cap]] w fun e w' => e = .returned (.bool (kdB s l c sh zs 5 k2 k3 (hvB t1 t2 v1 p) (hpB o1 o2 v2 l1 l2 v3 q))) ∧ Below w.heap.size w w' := by
  have K0 := NG.start w 85 26 N #[.int .i64 s, .int .i64 l, .int .i64 c, .int .i64 sh, .slice A n cap] A n zs hr
  have HZ := Lib.hid (sizeN hN)
  obtain ⟨n0, n1, n2, n3, n4, n5, n6, n7, n8, n9, n10, n11, n12, n13, n14, n15⟩ := cellsN hN
  have HN := Lib.hid hN
  have HM := Lib.hid hm
  have cN := K0.nb.cell
  obtain ⟨g0, g1, g2, g3, g4⟩ := K0.gb.five
  clear hr hm hN
  rw [kd_5]
  rcases h2 : hpB o1 o2 v2 l1 l2 v3 q with _ | _
  rotate_left
  · have H2 := Lib.hid h2
    clear h2
    go_enter Tryz.func233, Tryz.ntmps233
    go_wp2_with (refine wpList_load_box 85 _ rfl w.heap.size rfl 85 N K0.nb _ Tryz.underlying85 rfl HZ.out (by simp [Region.wanted, yielded]) ?_)
    generalize ((w.alloc _).alloc _ : World) = w0 at K0 cN g0 g1 g2 g3 g4 ⊢
    refine (hasPastN_is HN.out H2.out w0).mono ?_
    rintro e w1 ⟨rfl, hb⟩
    have K1 := K0.later hb
    clear hb K0 cN g0 g1 g2 g3 g4
    have E := K1.bel
    clear K1
    go_wp2
    go_ret
    exact ⟨rfl, E⟩
  rcases h3 : cliB s l c sh zs k2 with _ | _
  · have H2 := Lib.hid h2
    have H3 := Lib.hid h3
    clear h2 h3
    go_enter Tryz.func233, Tryz.ntmps233
    go_wp2_with (refine wpList_load_box 85 _ rfl w.heap.size rfl 85 N K0.nb _ Tryz.underlying85 rfl HZ.out (by simp [Region.wanted, yielded]) ?_)
    generalize ((w.alloc _).alloc _ : World) = w0 at K0 cN g0 g1 g2 g3 g4 ⊢
    refine (hasPastN_is HN.out H2.out w0).mono ?_
    rintro e w1 ⟨rfl, hb⟩
    have K1 := K0.later hb
    clear hb K0 cN g0 g1 g2 g3 g4
    have cN := K1.nb.cell
    obtain ⟨g0, g1, g2, g3, g4⟩ := K1.gb.five
    go_wp2_with (refine wpList_load_box 85 _ rfl w.heap.size rfl 85 N K1.nb _ Tryz.underlying85 rfl HZ.out (by simp [Region.wanted, yielded]) ?_)
    refine (clientB_is H3.out A n cap w1 HM.out K1.row).mono ?_
    rintro e w2 ⟨rfl, hb⟩
    have K2 := K1.later hb
    clear hb K1 cN g0 g1 g2 g3 g4
    have E := K2.bel
    clear K2
    go_wp2
    go_ret
    exact ⟨rfl, E⟩
  generalize h4 : srvB s l c sh zs k3 = b4
  have H2 := Lib.hid h2
  have H3 := Lib.hid h3
  have H4 := Lib.hid h4
  clear h2 h3 h4
  go_enter Tryz.func233, Tryz.ntmps233
  go_wp2_with (refine wpList_load_box 85 _ rfl w.heap.size rfl 85 N K0.nb _ Tryz.underlying85 rfl HZ.out (by simp [Region.wanted, yielded]) ?_)
  generalize ((w.alloc _).alloc _ : World) = w0 at K0 cN g0 g1 g2 g3 g4 ⊢
  refine (hasPastN_is HN.out H2.out w0).mono ?_
  rintro e w1 ⟨rfl, hb⟩
  have K1 := K0.later hb
  clear hb K0 cN g0 g1 g2 g3 g4
  have cN := K1.nb.cell
  obtain ⟨g0, g1, g2, g3, g4⟩ := K1.gb.five
  go_wp2_with (refine wpList_load_box 85 _ rfl w.heap.size rfl 85 N K1.nb _ Tryz.underlying85 rfl HZ.out (by simp [Region.wanted, yielded]) ?_)
  refine (clientB_is H3.out A n cap w1 HM.out K1.row).mono ?_
  rintro e w2 ⟨rfl, hb⟩
  have K2 := K1.later hb
  clear hb K1 cN g0 g1 g2 g3 g4
  have cN := K2.nb.cell
  obtain ⟨g0, g1, g2, g3, g4⟩ := K2.gb.five
  go_wp2_with (refine wpList_load_box 85 _ rfl w.heap.size rfl 85 N K2.nb _ Tryz.underlying85 rfl HZ.out (by simp [Region.wanted, yielded]) ?_)
  refine (serverB_is H4.out A n cap w2 HM.out K2.row).mono ?_
  rintro e w3 ⟨rfl, hb⟩
  have K3 := K2.later hb
  clear hb K2 cN g0 g1 g2 g3 g4
  have E := K3.bel
  clear K3
  go_wp2
  go_ret
  exact ⟨by cases b4 <;> rfl, E⟩

set_option maxHeartbeats 4000000 in
theorem kindOk_3 {N : Array Value} {k2 k3 k4 k5 t1 t2 v1 o1 o2 v2 : Int} {P : Option Addr} {p pc : Nat} {Q : Option Addr} {q qc : Nat} {l1 l2 v3 : Int} (hN : N = #[.int .i64 3, .int .i64 k2, .int .i64 k3, .int .i64 k4, .int .i64 k5, .int .i64 t1, .int .i64 t2, .int .i64 v1, .int .i64 o1, .int .i64 o2, .int .i64 v2, .slice P p pc, .slice Q q qc, .int .i64 l1, .int .i64 l2, .int .i64 v3]) (s l c sh : Int) (A : Option Addr) (n cap : Nat) (zs : List Int) (w : World) (hm : n ≤ maxLen) (hr : Row w w.heap.size A n zs) :
    Calls Tryz.prog 233 #[.agg N, .agg #[.int .i64 s, .int .i64 l, .int .i64 c, .int .i64 sh, .slice A n cap]] w fun e w' => e = .returned (.bool (kdB s l c sh zs 3 k2 k3 (hvB t1 t2 v1 p) (hpB o1 o2 v2 l1 l2 v3 q))) ∧ Below w.heap.size w w' := by
  have K0 := NG.start w 85 26 N #[.int .i64 s, .int .i64 l, .int .i64 c, .int .i64 sh, .slice A n cap] A n zs hr
  have HZ := Lib.hid (sizeN hN)
  obtain ⟨n0, n1, n2, n3, n4, n5, n6, n7, n8, n9, n10, n11, n12, n13, n14, n15⟩ := cellsN hN
  have HN := Lib.hid hN
  have HM := Lib.hid hm
  have cN := K0.nb.cell
  obtain ⟨g0, g1, g2, g3, g4⟩ := K0.gb.five
  clear hr hm hN
  rw [kd_3]
  rcases h3 : cliB s l c sh zs k2 with _ | _
  · have H3 := Lib.hid h3
    clear h3
    go_enter Tryz.func233, Tryz.ntmps233
    go_wp2_with (refine wpList_load_box 85 _ rfl w.heap.size rfl 85 N K0.nb _ Tryz.underlying85 rfl HZ.out (by simp [Region.wanted, yielded]) ?_)
    generalize ((w.alloc _).alloc _ : World) = w0 at K0 cN g0 g1 g2 g3 g4 ⊢
    refine (clientB_is H3.out A n cap w0 HM.out K0.row).mono ?_
    rintro e w1 ⟨rfl, hb⟩
    have K1 := K0.later hb
    clear hb K0 cN g0 g1 g2 g3 g4
    have E := K1.bel
    clear K1
    go_wp2
    go_ret
    exact ⟨rfl, E⟩
  generalize h4 : srvB s l c sh zs k3 = b4
  have H3 := Lib.hid h3
  have H4 := Lib.hid h4
  clear h3 h4
  go_enter Tryz.func233, Tryz.ntmps233
  go_wp2_with (refine wpList_load_box 85 _ rfl w.heap.size rfl 85 N K0.nb _ Tryz.underlying85 rfl HZ.out (by simp [Region.wanted, yielded]) ?_)
  generalize ((w.alloc _).alloc _ : World) = w0 at K0 cN g0 g1 g2 g3 g4 ⊢
  refine (clientB_is H3.out A n cap w0 HM.out K0.row).mono ?_
  rintro e w1 ⟨rfl, hb⟩
  have K1 := K0.later hb
  clear hb K0 cN g0 g1 g2 g3 g4
  have cN := K1.nb.cell
  obtain ⟨g0, g1, g2, g3, g4⟩ := K1.gb.five
  go_wp2_with (refine wpList_load_box 85 _ rfl w.heap.size rfl 85 N K1.nb _ Tryz.underlying85 rfl HZ.out (by simp [Region.wanted, yielded]) ?_)
  refine (serverB_is H4.out A n cap w1 HM.out K1.row).mono ?_
  rintro e w2 ⟨rfl, hb⟩
  have K2 := K1.later hb
  clear hb K1 cN g0 g1 g2 g3 g4
  have E := K2.bel
  clear K2
  go_wp2
  go_ret
  exact ⟨by cases b4 <;> rfl, E⟩

set_option maxHeartbeats 4000000 in
theorem kindOk_2 {N : Array Value} {k2 k3 k4 k5 t1 t2 v1 o1 o2 v2 : Int} {P : Option Addr} {p pc : Nat} {Q : Option Addr} {q qc : Nat} {l1 l2 v3 : Int} (hN : N = #[.int .i64 2, .int .i64 k2, .int .i64 k3, .int .i64 k4, .int .i64 k5, .int .i64 t1, .int .i64 t2, .int .i64 v1, .int .i64 o1, .int .i64 o2, .int .i64 v2, .slice P p pc, .slice Q q qc, .int .i64 l1, .int .i64 l2, .int .i64 v3]) (s l c sh : Int) (A : Option Addr) (n cap : Nat) (zs : List Int) (w : World) (hm : n ≤ maxLen) (hr : Row w w.heap.size A n zs) :
    Calls Tryz.prog 233 #[.agg N, .agg #[.int .i64 s, .int .i64 l, .int .i64 c, .int .i64 sh, .slice A n cap]] w fun e w' => e = .returned (.bool (kdB s l c sh zs 2 k2 k3 (hvB t1 t2 v1 p) (hpB o1 o2 v2 l1 l2 v3 q))) ∧ Below w.heap.size w w' := by
  have K0 := NG.start w 85 26 N #[.int .i64 s, .int .i64 l, .int .i64 c, .int .i64 sh, .slice A n cap] A n zs hr
  have HZ := Lib.hid (sizeN hN)
  obtain ⟨n0, n1, n2, n3, n4, n5, n6, n7, n8, n9, n10, n11, n12, n13, n14, n15⟩ := cellsN hN
  have HN := Lib.hid hN
  have HM := Lib.hid hm
  have cN := K0.nb.cell
  obtain ⟨g0, g1, g2, g3, g4⟩ := K0.gb.five
  clear hr hm hN
  rw [kd_e (by omega)]
  rcases h2 : hpB o1 o2 v2 l1 l2 v3 q with _ | _
  rotate_left
  · have H2 := Lib.hid h2
    clear h2
    go_enter Tryz.func233, Tryz.ntmps233
    go_wp2_with (refine wpList_load_box 85 _ rfl w.heap.size rfl 85 N K0.nb _ Tryz.underlying85 rfl HZ.out (by simp [Region.wanted, yielded]) ?_)
    generalize ((w.alloc _).alloc _ : World) = w0 at K0 cN g0 g1 g2 g3 g4 ⊢
    refine (hasPastN_is HN.out H2.out w0).mono ?_
    rintro e w1 ⟨rfl, hb⟩
    have K1 := K0.later hb
    clear hb K0 cN g0 g1 g2 g3 g4
    have E := K1.bel
    clear K1
    go_wp2
    go_ret
    exact ⟨rfl, E⟩
  rcases h3 : srvB s l c sh zs k2 with _ | _
  · have H2 := Lib.hid h2
    have H3 := Lib.hid h3
    clear h2 h3
    go_enter Tryz.func233, Tryz.ntmps233
    go_wp2_with (refine wpList_load_box 85 _ rfl w.heap.size rfl 85 N K0.nb _ Tryz.underlying85 rfl HZ.out (by simp [Region.wanted, yielded]) ?_)
    generalize ((w.alloc _).alloc _ : World) = w0 at K0 cN g0 g1 g2 g3 g4 ⊢
    refine (hasPastN_is HN.out H2.out w0).mono ?_
    rintro e w1 ⟨rfl, hb⟩
    have K1 := K0.later hb
    clear hb K0 cN g0 g1 g2 g3 g4
    have cN := K1.nb.cell
    obtain ⟨g0, g1, g2, g3, g4⟩ := K1.gb.five
    go_wp2_with (refine wpList_load_box 85 _ rfl w.heap.size rfl 85 N K1.nb _ Tryz.underlying85 rfl HZ.out (by simp [Region.wanted, yielded]) ?_)
    refine (serverB_is H3.out A n cap w1 HM.out K1.row).mono ?_
    rintro e w2 ⟨rfl, hb⟩
    have K2 := K1.later hb
    clear hb K1 cN g0 g1 g2 g3 g4
    have E := K2.bel
    clear K2
    go_wp2
    go_ret
    exact ⟨rfl, E⟩
  generalize h4 : cliB s l c sh zs k3 = b4
  have H2 := Lib.hid h2
  have H3 := Lib.hid h3
  have H4 := Lib.hid h4
  clear h2 h3 h4
  go_enter Tryz.func233, Tryz.ntmps233
  go_wp2_with (refine wpList_load_box 85 _ rfl w.heap.size rfl 85 N K0.nb _ Tryz.underlying85 rfl HZ.out (by simp [Region.wanted, yielded]) ?_)
  generalize ((w.alloc _).alloc _ : World) = w0 at K0 cN g0 g1 g2 g3 g4 ⊢
  refine (hasPastN_is HN.out H2.out w0).mono ?_
  rintro e w1 ⟨rfl, hb⟩
  have K1 := K0.later hb
  clear hb K0 cN g0 g1 g2 g3 g4
  have cN := K1.nb.cell
  obtain ⟨g0, g1, g2, g3, g4⟩ := K1.gb.five
  go_wp2_with (refine wpList_load_box 85 _ rfl w.heap.size rfl 85 N K1.nb _ Tryz.underlying85 rfl HZ.out (by simp [Region.wanted, yielded]) ?_)
  refine (serverB_is H3.out A n cap w1 HM.out K1.row).mono ?_
  rintro e w2 ⟨rfl, hb⟩
  have K2 := K1.later hb
  clear hb K1 cN g0 g1 g2 g3 g4
  have cN := K2.nb.cell
  obtain ⟨g0, g1, g2, g3, g4⟩ := K2.gb.five
  go_wp2_with (refine wpList_load_box 85 _ rfl w.heap.size rfl 85 N K2.nb _ Tryz.underlying85 rfl HZ.out (by simp [Region.wanted, yielded]) ?_)
  refine (clientB_is H4.out A n cap w2 HM.out K2.row).mono ?_
  rintro e w3 ⟨rfl, hb⟩
  have K3 := K2.later hb
  clear hb K2 cN g0 g1 g2 g3 g4
  have E := K3.bel
  clear K3
  go_wp2
  go_ret
  exact ⟨by cases b4 <;> rfl, E⟩

set_option maxHeartbeats 4000000 in
theorem kindOk_4 {N : Array Value} {k2 k3 k4 k5 t1 t2 v1 o1 o2 v2 : Int} {P : Option Addr} {p pc : Nat} {Q : Option Addr} {q qc : Nat} {l1 l2 v3 : Int} (hN : N = #[.int .i64 4, .int .i64 k2, .int .i64 k3, .int .i64 k4, .int .i64 k5, .int .i64 t1, .int .i64 t2, .int .i64 v1, .int .i64 o1, .int .i64 o2, .int .i64 v2, .slice P p pc, .slice Q q qc, .int .i64 l1, .int .i64 l2, .int .i64 v3]) (s l c sh : Int) (A : Option Addr) (n cap : Nat) (zs : List Int) (w : World) (hm : n ≤ maxLen) (hr : Row w w.heap.size A n zs) :
    Calls Tryz.prog 233 #[.agg N, .agg #[.int .i64 s, .int .i64 l, .int .i64 c, .int .i64 sh, .slice A n cap]] w fun e w' => e = .returned (.bool (kdB s l c sh zs 4 k2 k3 (hvB t1 t2 v1 p) (hpB o1 o2 v2 l1 l2 v3 q))) ∧ Below w.heap.size w w' := by
  have K0 := NG.start w 85 26 N #[.int .i64 s, .int .i64 l, .int .i64 c, .int .i64 sh, .slice A n cap] A n zs hr
  have HZ := Lib.hid (sizeN hN)
  obtain ⟨n0, n1, n2, n3, n4, n5, n6, n7, n8, n9, n10, n11, n12, n13, n14, n15⟩ := cellsN hN
  have HN := Lib.hid hN
  have HM := Lib.hid hm
  have cN := K0.nb.cell
  obtain ⟨g0, g1, g2, g3, g4⟩ := K0.gb.five
  clear hr hm hN
  rw [kd_e (by omega)]
  rcases h2 : hpB o1 o2 v2 l1 l2 v3 q with _ | _
  rotate_left
  · have H2 := Lib.hid h2
    clear h2
    go_enter Tryz.func233, Tryz.ntmps233
    go_wp2_with (refine wpList_load_box 85 _ rfl w.heap.size rfl 85 N K0.nb _ Tryz.underlying85 rfl HZ.out (by simp [Region.wanted, yielded]) ?_)
    generalize ((w.alloc _).alloc _ : World) = w0 at K0 cN g0 g1 g2 g3 g4 ⊢
    refine (hasPastN_is HN.out H2.out w0).mono ?_
    rintro e w1 ⟨rfl, hb⟩
    have K1 := K0.later hb
    clear hb K0 cN g0 g1 g2 g3 g4
    have E := K1.bel
    clear K1
    go_wp2
    go_ret
    exact ⟨rfl, E⟩
  rcases h3 : srvB s l c sh zs k2 with _ | _
  · have H2 := Lib.hid h2
    have H3 := Lib.hid h3
    clear h2 h3
    go_enter Tryz.func233, Tryz.ntmps233
    go_wp2_with (refine wpList_load_box 85 _ rfl w.heap.size rfl 85 N K0.nb _ Tryz.underlying85 rfl HZ.out (by simp [Region.wanted, yielded]) ?_)
    generalize ((w.alloc _).alloc _ : World) = w0 at K0 cN g0 g1 g2 g3 g4 ⊢
    refine (hasPastN_is HN.out H2.out w0).mono ?_
    rintro e w1 ⟨rfl, hb⟩
    have K1 := K0.later hb
    clear hb K0 cN g0 g1 g2 g3 g4
    have cN := K1.nb.cell
    obtain ⟨g0, g1, g2, g3, g4⟩ := K1.gb.five
    go_wp2_with (refine wpList_load_box 85 _ rfl w.heap.size rfl 85 N K1.nb _ Tryz.underlying85 rfl HZ.out (by simp [Region.wanted, yielded]) ?_)
    refine (serverB_is H3.out A n cap w1 HM.out K1.row).mono ?_
    rintro e w2 ⟨rfl, hb⟩
    have K2 := K1.later hb
    clear hb K1 cN g0 g1 g2 g3 g4
    have E := K2.bel
    clear K2
    go_wp2
    go_ret
    exact ⟨rfl, E⟩
  generalize h4 : cliB s l c sh zs k3 = b4
  have H2 := Lib.hid h2
  have H3 := Lib.hid h3
  have H4 := Lib.hid h4
  clear h2 h3 h4
  go_enter Tryz.func233, Tryz.ntmps233
  go_wp2_with (refine wpList_load_box 85 _ rfl w.heap.size rfl 85 N K0.nb _ Tryz.underlying85 rfl HZ.out (by simp [Region.wanted, yielded]) ?_)
  generalize ((w.alloc _).alloc _ : World) = w0 at K0 cN g0 g1 g2 g3 g4 ⊢
  refine (hasPastN_is HN.out H2.out w0).mono ?_
  rintro e w1 ⟨rfl, hb⟩
  have K1 := K0.later hb
  clear hb K0 cN g0 g1 g2 g3 g4
  have cN := K1.nb.cell
  obtain ⟨g0, g1, g2, g3, g4⟩ := K1.gb.five
  go_wp2_with (refine wpList_load_box 85 _ rfl w.heap.size rfl 85 N K1.nb _ Tryz.underlying85 rfl HZ.out (by simp [Region.wanted, yielded]) ?_)
  refine (serverB_is H3.out A n cap w1 HM.out K1.row).mono ?_
  rintro e w2 ⟨rfl, hb⟩
  have K2 := K1.later hb
  clear hb K1 cN g0 g1 g2 g3 g4
  have cN := K2.nb.cell
  obtain ⟨g0, g1, g2, g3, g4⟩ := K2.gb.five
  go_wp2_with (refine wpList_load_box 85 _ rfl w.heap.size rfl 85 N K2.nb _ Tryz.underlying85 rfl HZ.out (by simp [Region.wanted, yielded]) ?_)
  refine (clientB_is H4.out A n cap w2 HM.out K2.row).mono ?_
  rintro e w3 ⟨rfl, hb⟩
  have K3 := K2.later hb
  clear hb K2 cN g0 g1 g2 g3 g4
  have E := K3.bel
  clear K3
  go_wp2
  go_ret
  exact ⟨by cases b4 <;> rfl, E⟩

set_option maxHeartbeats 4000000 in
theorem kindOk_6 {N : Array Value} {k2 k3 k4 k5 t1 t2 v1 o1 o2 v2 : Int} {P : Option Addr} {p pc : Nat} {Q : Option Addr} {q qc : Nat} {l1 l2 v3 : Int} (hN : N = #[.int .i64 6, .int .i64 k2, .int .i64 k3, .int .i64 k4, .int .i64 k5, .int .i64 t1, .int .i64 t2, .int .i64 v1, .int .i64 o1, .int .i64 o2, .int .i64 v2, .slice P p pc, .slice Q q qc, .int .i64 l1, .int .i64 l2, .int .i64 v3]) (s l c sh : Int) (A : Option Addr) (n cap : Nat) (zs : List Int) (w : World) (hm : n ≤ maxLen) (hr : Row w w.heap.size A n zs) :
    Calls Tryz.prog 233 #[.agg N, .agg #[.int .i64 s, .int .i64 l, .int .i64 c, .int .i64 sh, .slice A n cap]] w fun e w' => e = .returned (.bool (kdB s l c sh zs 6 k2 k3 (hvB t1 t2 v1 p) (hpB o1 o2 v2 l1 l2 v3 q))) ∧ Below w.heap.size w w' := by
  have K0 := NG.start w 85 26 N #[.int .i64 s, .int .i64 l, .int .i64 c, .int .i64 sh, .slice A n cap] A n zs hr
  have HZ := Lib.hid (sizeN hN)
  obtain ⟨n0, n1, n2, n3, n4, n5, n6, n7, n8, n9, n10, n11, n12, n13, n14, n15⟩ := cellsN hN
  have HN := Lib.hid hN
  have HM := Lib.hid hm
  have cN := K0.nb.cell
  obtain ⟨g0, g1, g2, g3, g4⟩ := K0.gb.five
  clear hr hm hN
  rw [kd_e (by omega)]
  rcases h2 : hpB o1 o2 v2 l1 l2 v3 q with _ | _
  rotate_left
  · have H2 := Lib.hid h2
    clear h2
    go_enter Tryz.func233, Tryz.ntmps233
    go_wp2_with (refine wpList_load_box 85 _ rfl w.heap.size rfl 85 N K0.nb _ Tryz.underlying85 rfl HZ.out (by simp [Region.wanted, yielded]) ?_)
    generalize ((w.alloc _).alloc _ : World) = w0 at K0 cN g0 g1 g2 g3 g4 ⊢
    refine (hasPastN_is HN.out H2.out w0).mono ?_
    rintro e w1 ⟨rfl, hb⟩
    have K1 := K0.later hb
    clear hb K0 cN g0 g1 g2 g3 g4
    have E := K1.bel
    clear K1
    go_wp2
    go_ret
    exact ⟨rfl, E⟩
  rcases h3 : srvB s l c sh zs k2 with _ | _
  · have H2 := Lib.hid h2
    have H3 := Lib.hid h3
    clear h2 h3
    go_enter Tryz.func233, Tryz.ntmps233
    go_wp2_with (refine wpList_load_box 85 _ rfl w.heap.size rfl 85 N K0.nb _ Tryz.underlying85 rfl HZ.out (by simp [Region.wanted, yielded]) ?_)
    generalize ((w.alloc _).alloc _ : World) = w0 at K0 cN g0 g1 g2 g3 g4 ⊢
    refine (hasPastN_is HN.out H2.out w0).mono ?_
    rintro e w1 ⟨rfl, hb⟩
    have K1 := K0.later hb
    clear hb K0 cN g0 g1 g2 g3 g4
    have cN := K1.nb.cell
    obtain ⟨g0, g1, g2, g3, g4⟩ := K1.gb.five
    go_wp2_with (refine wpList_load_box 85 _ rfl w.heap.size rfl 85 N K1.nb _ Tryz.underlying85 rfl HZ.out (by simp [Region.wanted, yielded]) ?_)
    refine (serverB_is H3.out A n cap w1 HM.out K1.row).mono ?_
    rintro e w2 ⟨rfl, hb⟩
    have K2 := K1.later hb
    clear hb K1 cN g0 g1 g2 g3 g4
    have E := K2.bel
    clear K2
    go_wp2
    go_ret
    exact ⟨rfl, E⟩
  generalize h4 : cliB s l c sh zs k3 = b4
  have H2 := Lib.hid h2
  have H3 := Lib.hid h3
  have H4 := Lib.hid h4
  clear h2 h3 h4
  go_enter Tryz.func233, Tryz.ntmps233
  go_wp2_with (refine wpList_load_box 85 _ rfl w.heap.size rfl 85 N K0.nb _ Tryz.underlying85 rfl HZ.out (by simp [Region.wanted, yielded]) ?_)
  generalize ((w.alloc _).alloc _ : World) = w0 at K0 cN g0 g1 g2 g3 g4 ⊢
  refine (hasPastN_is HN.out H2.out w0).mono ?_
  rintro e w1 ⟨rfl, hb⟩
  have K1 := K0.later hb
  clear hb K0 cN g0 g1 g2 g3 g4
  have cN := K1.nb.cell
  obtain ⟨g0, g1, g2, g3, g4⟩ := K1.gb.five
  go_wp2_with (refine wpList_load_box 85 _ rfl w.heap.size rfl 85 N K1.nb _ Tryz.underlying85 rfl HZ.out (by simp [Region.wanted, yielded]) ?_)
  refine (serverB_is H3.out A n cap w1 HM.out K1.row).mono ?_
  rintro e w2 ⟨rfl, hb⟩
  have K2 := K1.later hb
  clear hb K1 cN g0 g1 g2 g3 g4
  have cN := K2.nb.cell
  obtain ⟨g0, g1, g2, g3, g4⟩ := K2.gb.five
  go_wp2_with (refine wpList_load_box 85 _ rfl w.heap.size rfl 85 N K2.nb _ Tryz.underlying85 rfl HZ.out (by simp [Region.wanted, yielded]) ?_)
  refine (clientB_is H4.out A n cap w2 HM.out K2.row).mono ?_
  rintro e w3 ⟨rfl, hb⟩
  have K3 := K2.later hb
  clear hb K2 cN g0 g1 g2 g3 g4
  have E := K3.bel
  clear K3
  go_wp2
  go_ret
  exact ⟨by cases b4 <;> rfl, E⟩

set_option maxHeartbeats 4000000 in
theorem kindOkN_is {N : Array Value} {k1 k2 k3 k4 k5 t1 t2 v1 o1 o2 v2 : Int} {P : Option Addr} {p pc : Nat} {Q : Option Addr} {q qc : Nat} {l1 l2 v3 : Int} (hN : N = #[.int .i64 k1, .int .i64 k2, .int .i64 k3, .int .i64 k4, .int .i64 k5, .int .i64 t1, .int .i64 t2, .int .i64 v1, .int .i64 o1, .int .i64 o2, .int .i64 v2, .slice P p pc, .slice Q q qc, .int .i64 l1, .int .i64 l2, .int .i64 v3]) {s l c sh : Int} {zs : List Int} {b : Bool} (h : kdB s l c sh zs k1 k2 k3 (hvB t1 t2 v1 p) (hpB o1 o2 v2 l1 l2 v3 q) = b) (A : Option Addr) (n cap : Nat) (w : World) (hm : n ≤ maxLen) (hr : Row w w.heap.size A n zs) :
    Calls Tryz.prog 233 #[.agg N, .agg #[.int .i64 s, .int .i64 l, .int .i64 c, .int .i64 sh, .slice A n cap]] w fun e w' => e = .returned (.bool b) ∧ Below w.heap.size w w' := by
  rw [← h]
  clear h
  by_cases e1 : k1 = 1
  · subst e1
    exact kindOk_1 hN s l c sh A n cap zs w hm hr
  by_cases e2 : k1 = 2
  · subst e2
    exact kindOk_2 hN s l c sh A n cap zs w hm hr
  by_cases e3 : k1 = 3
  · subst e3
    exact kindOk_3 hN s l c sh A n cap zs w hm hr
  by_cases e4 : k1 = 4
  · subst e4
    exact kindOk_4 hN s l c sh A n cap zs w hm hr
  by_cases e5 : k1 = 5
  · subst e5
    exact kindOk_5 hN s l c sh A n cap zs w hm hr
  by_cases e6 : k1 = 6
  · subst e6
    exact kindOk_6 hN s l c sh A n cap zs w hm hr
  rw [kd_no e1 e2 e3 e4 e5 e6]
  have f1 : (k1 == 1) = false := by simpa using e1
  have f2 : (k1 == 2) = false := by simpa using e2
  have f3 : (k1 == 3) = false := by simpa using e3
  have f4 : (k1 == 4) = false := by simpa using e4
  have f5 : (k1 == 5) = false := by simpa using e5
  have f6 : (k1 == 6) = false := by simpa using e6
  have K0 := NG.start w 85 26 N #[.int .i64 s, .int .i64 l, .int .i64 c, .int .i64 sh, .slice A n cap] A n zs hr
  obtain ⟨n0, n1, n2, n3, n4, n5, n6, n7, n8, n9, n10, n11, n12, n13, n14, n15⟩ := cellsN hN
  have E0 := K0.bel
  clear hN K0 hr
  go_enter Tryz.func233, Tryz.ntmps233
  go_wp2
  go_ret
  exact ⟨rfl, E0⟩

end Go.Proofs.YtjdepjpjjgkmbaaGreat
