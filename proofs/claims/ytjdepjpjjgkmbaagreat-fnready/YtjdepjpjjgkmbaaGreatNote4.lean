/- What NoteOk of impl/l05_note.go answers: its contract, a theorem a way (written by note3.py). -/
import Derived.Test.YtjdepjpjjgkmbaaGreatNote3
namespace Go.Proofs.YtjdepjpjjgkmbaaGreat
open Go.RowKit

set_option maxHeartbeats 8000000 in
theorem note_0 {N : Array Value} {k1 k2 k3 k4 k5 t1 t2 v1 o1 o2 v2 : Int} {P : Option Addr} {p pc : Nat} {Q : Option Addr} {q qc : Nat} {l1 l2 v3 : Int} (hN : N = #[.int .i64 k1, .int .i64 k2, .int .i64 k3, .int .i64 k4, .int .i64 k5, .int .i64 t1, .int .i64 t2, .int .i64 v1, .int .i64 o1, .int .i64 o2, .int .i64 v2, .slice P p pc, .slice Q q qc, .int .i64 l1, .int .i64 l2, .int .i64 v3]) (s l c sh : Int) (A : Option Addr) (n cap : Nat) (zs : List Int) (ps qs : List (Int × Int)) (w : World) (hm : n ≤ maxLen) (hmp : p ≤ maxLen) (hmq : q ≤ maxLen) (hr : Row w w.heap.size A n zs) (hp : Pairs w w.heap.size P p ps) (hq : Pairs w w.heap.size Q q qs) (h1 : inB k4 0 100000 = false) :
    Calls Tryz.prog 207 #[.agg #[.int .i64 s, .int .i64 l, .int .i64 c, .int .i64 sh, .slice A n cap], .agg N] w fun e w' => e = .returned (.bool false) ∧ Below w.heap.size w w' := by
  have K0 := NGP.start w 85 26 N #[.int .i64 s, .int .i64 l, .int .i64 c, .int .i64 sh, .slice A n cap] A n zs P p ps Q q qs hr hp hq
  have HZ := Lib.hid (sizeN hN)
  obtain ⟨n0, n1, n2, n3, n4, n5, n6, n7, n8, n9, n10, n11, n12, n13, n14, n15⟩ := cellsN hN
  have HN := Lib.hid hN
  have HM := Lib.hid hm
  have cN := K0.nb.cell
  obtain ⟨g0, g1, g2, g3, g4⟩ := K0.gb.five
  have HMP := Lib.hid hmp
  have HMQ := Lib.hid hmq
  clear hr hm hmp hmq hp hq hN
  have H1 := Lib.hid h1
  clear h1
  go_enter Tryz.func207, Tryz.ntmps207
  go_wp2_with (go_at_call 143; refine (withinB_is H1.out _).mono ?_; rintro e w' ⟨rfl, rfl⟩)
  have E := K0.bel
  go_ret
  exact ⟨rfl, E⟩

set_option maxHeartbeats 8000000 in
theorem note_1 {N : Array Value} {k1 k2 k3 k4 k5 t1 t2 v1 o1 o2 v2 : Int} {P : Option Addr} {p pc : Nat} {Q : Option Addr} {q qc : Nat} {l1 l2 v3 : Int} (hN : N = #[.int .i64 k1, .int .i64 k2, .int .i64 k3, .int .i64 k4, .int .i64 k5, .int .i64 t1, .int .i64 t2, .int .i64 v1, .int .i64 o1, .int .i64 o2, .int .i64 v2, .slice P p pc, .slice Q q qc, .int .i64 l1, .int .i64 l2, .int .i64 v3]) (s l c sh : Int) (A : Option Addr) (n cap : Nat) (zs : List Int) (ps qs : List (Int × Int)) (w : World) (hm : n ≤ maxLen) (hmp : p ≤ maxLen) (hmq : q ≤ maxLen) (hr : Row w w.heap.size A n zs) (hp : Pairs w w.heap.size P p ps) (hq : Pairs w w.heap.size Q q qs) (h1 : inB k4 0 100000 = true) (h2 : shfB s l c sh zs k5 = false) :
    Calls Tryz.prog 207 #[.agg #[.int .i64 s, .int .i64 l, .int .i64 c, .int .i64 sh, .slice A n cap], .agg N] w fun e w' => e = .returned (.bool false) ∧ Below w.heap.size w w' := by
  have K0 := NGP.start w 85 26 N #[.int .i64 s, .int .i64 l, .int .i64 c, .int .i64 sh, .slice A n cap] A n zs P p ps Q q qs hr hp hq
  have HZ := Lib.hid (sizeN hN)
  obtain ⟨n0, n1, n2, n3, n4, n5, n6, n7, n8, n9, n10, n11, n12, n13, n14, n15⟩ := cellsN hN
  have HN := Lib.hid hN
  have HM := Lib.hid hm
  have cN := K0.nb.cell
  obtain ⟨g0, g1, g2, g3, g4⟩ := K0.gb.five
  have HMP := Lib.hid hmp
  have HMQ := Lib.hid hmq
  clear hr hm hmp hmq hp hq hN
  have H1 := Lib.hid h1
  have H2 := Lib.hid h2
  clear h1 h2
  go_enter Tryz.func207, Tryz.ntmps207
  go_wp2_with (first | (go_at_call 143; refine (withinB_is H1.out _).mono ?_; rintro e w' ⟨rfl, rfl⟩) | (refine wpList_load_box 85 _ rfl (w.heap.size + 1) rfl 85 N K0.nb _ Tryz.underlying85 rfl HZ.out (by simp [Region.wanted, yielded]) ?_))
  generalize ((w.alloc _).alloc _ : World) = w0 at K0 cN g0 g1 g2 g3 g4 ⊢
  refine (isShelfB_is H2.out A n cap w0 HM.out K0.row).mono ?_
  rintro e w1 ⟨rfl, hb⟩
  have K1 := K0.later hb
  clear hb K0 cN g0 g1 g2 g3 g4
  have E := K1.bel
  clear K1
  go_wp2
  go_ret
  exact ⟨rfl, E⟩

set_option maxHeartbeats 8000000 in
theorem note_2 {N : Array Value} {k1 k2 k3 k4 k5 t1 t2 v1 o1 o2 v2 : Int} {P : Option Addr} {p pc : Nat} {Q : Option Addr} {q qc : Nat} {l1 l2 v3 : Int} (hN : N = #[.int .i64 k1, .int .i64 k2, .int .i64 k3, .int .i64 k4, .int .i64 k5, .int .i64 t1, .int .i64 t2, .int .i64 v1, .int .i64 o1, .int .i64 o2, .int .i64 v2, .slice P p pc, .slice Q q qc, .int .i64 l1, .int .i64 l2, .int .i64 v3]) (s l c sh : Int) (A : Option Addr) (n cap : Nat) (zs : List Int) (ps qs : List (Int × Int)) (w : World) (hm : n ≤ maxLen) (hmp : p ≤ maxLen) (hmq : q ≤ maxLen) (hr : Row w w.heap.size A n zs) (hp : Pairs w w.heap.size P p ps) (hq : Pairs w w.heap.size Q q qs) (h1 : inB k4 0 100000 = true) (h2 : shfB s l c sh zs k5 = true) (h3 : stsB t1 t2 o1 o2 l1 l2 = false) :
    Calls Tryz.prog 207 #[.agg #[.int .i64 s, .int .i64 l, .int .i64 c, .int .i64 sh, .slice A n cap], .agg N] w fun e w' => e = .returned (.bool false) ∧ Below w.heap.size w w' := by
  have K0 := NGP.start w 85 26 N #[.int .i64 s, .int .i64 l, .int .i64 c, .int .i64 sh, .slice A n cap] A n zs P p ps Q q qs hr hp hq
  have HZ := Lib.hid (sizeN hN)
  obtain ⟨n0, n1, n2, n3, n4, n5, n6, n7, n8, n9, n10, n11, n12, n13, n14, n15⟩ := cellsN hN
  have HN := Lib.hid hN
  have HM := Lib.hid hm
  have cN := K0.nb.cell
  obtain ⟨g0, g1, g2, g3, g4⟩ := K0.gb.five
  have HMP := Lib.hid hmp
  have HMQ := Lib.hid hmq
  clear hr hm hmp hmq hp hq hN
  have H1 := Lib.hid h1
  have H2 := Lib.hid h2
  have H3 := Lib.hid h3
  clear h1 h2 h3
  go_enter Tryz.func207, Tryz.ntmps207
  go_wp2_with (first | (go_at_call 143; refine (withinB_is H1.out _).mono ?_; rintro e w' ⟨rfl, rfl⟩) | (refine wpList_load_box 85 _ rfl (w.heap.size + 1) rfl 85 N K0.nb _ Tryz.underlying85 rfl HZ.out (by simp [Region.wanted, yielded]) ?_))
  generalize ((w.alloc _).alloc _ : World) = w0 at K0 cN g0 g1 g2 g3 g4 ⊢
  refine (isShelfB_is H2.out A n cap w0 HM.out K0.row).mono ?_
  rintro e w1 ⟨rfl, hb⟩
  have K1 := K0.later hb
  clear hb K0 cN g0 g1 g2 g3 g4
  have cN := K1.nb.cell
  obtain ⟨g0, g1, g2, g3, g4⟩ := K1.gb.five
  go_wp2_with (refine wpList_load_box 85 _ rfl (w.heap.size + 1) rfl 85 N K1.nb _ Tryz.underlying85 rfl HZ.out (by simp [Region.wanted, yielded]) ?_)
  refine (stampsOkN_is HN.out H3.out w1).mono ?_
  rintro e w2 ⟨rfl, hb⟩
  have K2 := K1.later hb
  clear hb K1 cN g0 g1 g2 g3 g4
  have E := K2.bel
  clear K2
  go_wp2
  go_ret
  exact ⟨rfl, E⟩

set_option maxHeartbeats 8000000 in
theorem note_3 {N : Array Value} {k1 k2 k3 k4 k5 t1 t2 v1 o1 o2 v2 : Int} {P : Option Addr} {p pc : Nat} {Q : Option Addr} {q qc : Nat} {l1 l2 v3 : Int} (hN : N = #[.int .i64 k1, .int .i64 k2, .int .i64 k3, .int .i64 k4, .int .i64 k5, .int .i64 t1, .int .i64 t2, .int .i64 v1, .int .i64 o1, .int .i64 o2, .int .i64 v2, .slice P p pc, .slice Q q qc, .int .i64 l1, .int .i64 l2, .int .i64 v3]) (s l c sh : Int) (A : Option Addr) (n cap : Nat) (zs : List Int) (ps qs : List (Int × Int)) (w : World) (hm : n ≤ maxLen) (hmp : p ≤ maxLen) (hmq : q ≤ maxLen) (hr : Row w w.heap.size A n zs) (hp : Pairs w w.heap.size P p ps) (hq : Pairs w w.heap.size Q q qs) (h1 : inB k4 0 100000 = true) (h2 : shfB s l c sh zs k5 = true) (h3 : stsB t1 t2 o1 o2 l1 l2 = true) (h4 : valsB v1 v2 v3 = false) :
    Calls Tryz.prog 207 #[.agg #[.int .i64 s, .int .i64 l, .int .i64 c, .int .i64 sh, .slice A n cap], .agg N] w fun e w' => e = .returned (.bool false) ∧ Below w.heap.size w w' := by
  have K0 := NGP.start w 85 26 N #[.int .i64 s, .int .i64 l, .int .i64 c, .int .i64 sh, .slice A n cap] A n zs P p ps Q q qs hr hp hq
  have HZ := Lib.hid (sizeN hN)
  obtain ⟨n0, n1, n2, n3, n4, n5, n6, n7, n8, n9, n10, n11, n12, n13, n14, n15⟩ := cellsN hN
  have HN := Lib.hid hN
  have HM := Lib.hid hm
  have cN := K0.nb.cell
  obtain ⟨g0, g1, g2, g3, g4⟩ := K0.gb.five
  have HMP := Lib.hid hmp
  have HMQ := Lib.hid hmq
  clear hr hm hmp hmq hp hq hN
  have H1 := Lib.hid h1
  have H2 := Lib.hid h2
  have H3 := Lib.hid h3
  have H4 := Lib.hid h4
  clear h1 h2 h3 h4
  go_enter Tryz.func207, Tryz.ntmps207
  go_wp2_with (first | (go_at_call 143; refine (withinB_is H1.out _).mono ?_; rintro e w' ⟨rfl, rfl⟩) | (refine wpList_load_box 85 _ rfl (w.heap.size + 1) rfl 85 N K0.nb _ Tryz.underlying85 rfl HZ.out (by simp [Region.wanted, yielded]) ?_))
  generalize ((w.alloc _).alloc _ : World) = w0 at K0 cN g0 g1 g2 g3 g4 ⊢
  refine (isShelfB_is H2.out A n cap w0 HM.out K0.row).mono ?_
  rintro e w1 ⟨rfl, hb⟩
  have K1 := K0.later hb
  clear hb K0 cN g0 g1 g2 g3 g4
  have cN := K1.nb.cell
  obtain ⟨g0, g1, g2, g3, g4⟩ := K1.gb.five
  go_wp2_with (refine wpList_load_box 85 _ rfl (w.heap.size + 1) rfl 85 N K1.nb _ Tryz.underlying85 rfl HZ.out (by simp [Region.wanted, yielded]) ?_)
  refine (stampsOkN_is HN.out H3.out w1).mono ?_
  rintro e w2 ⟨rfl, hb⟩
  have K2 := K1.later hb
  clear hb K1 cN g0 g1 g2 g3 g4
  have cN := K2.nb.cell
  obtain ⟨g0, g1, g2, g3, g4⟩ := K2.gb.five
  go_wp2_with (refine wpList_load_box 85 _ rfl (w.heap.size + 1) rfl 85 N K2.nb _ Tryz.underlying85 rfl HZ.out (by simp [Region.wanted, yielded]) ?_)
  refine (valuesOkN_is HN.out H4.out w2).mono ?_
  rintro e w3 ⟨rfl, hb⟩
  have K3 := K2.later hb
  clear hb K2 cN g0 g1 g2 g3 g4
  have E := K3.bel
  clear K3
  go_wp2
  go_ret
  exact ⟨rfl, E⟩

set_option maxHeartbeats 8000000 in
theorem note_4 {N : Array Value} {k1 k2 k3 k4 k5 t1 t2 v1 o1 o2 v2 : Int} {P : Option Addr} {p pc : Nat} {Q : Option Addr} {q qc : Nat} {l1 l2 v3 : Int} (hN : N = #[.int .i64 k1, .int .i64 k2, .int .i64 k3, .int .i64 k4, .int .i64 k5, .int .i64 t1, .int .i64 t2, .int .i64 v1, .int .i64 o1, .int .i64 o2, .int .i64 v2, .slice P p pc, .slice Q q qc, .int .i64 l1, .int .i64 l2, .int .i64 v3]) (s l c sh : Int) (A : Option Addr) (n cap : Nat) (zs : List Int) (ps qs : List (Int × Int)) (w : World) (hm : n ≤ maxLen) (hmp : p ≤ maxLen) (hmq : q ≤ maxLen) (hr : Row w w.heap.size A n zs) (hp : Pairs w w.heap.size P p ps) (hq : Pairs w w.heap.size Q q qs) (h1 : inB k4 0 100000 = true) (h2 : shfB s l c sh zs k5 = true) (h3 : stsB t1 t2 o1 o2 l1 l2 = true) (h4 : valsB v1 v2 v3 = true) (h5 : fitB ps = false) :
    Calls Tryz.prog 207 #[.agg #[.int .i64 s, .int .i64 l, .int .i64 c, .int .i64 sh, .slice A n cap], .agg N] w fun e w' => e = .returned (.bool false) ∧ Below w.heap.size w w' := by
  have K0 := NGP.start w 85 26 N #[.int .i64 s, .int .i64 l, .int .i64 c, .int .i64 sh, .slice A n cap] A n zs P p ps Q q qs hr hp hq
  have HZ := Lib.hid (sizeN hN)
  obtain ⟨n0, n1, n2, n3, n4, n5, n6, n7, n8, n9, n10, n11, n12, n13, n14, n15⟩ := cellsN hN
  have HN := Lib.hid hN
  have HM := Lib.hid hm
  have cN := K0.nb.cell
  obtain ⟨g0, g1, g2, g3, g4⟩ := K0.gb.five
  have HMP := Lib.hid hmp
  have HMQ := Lib.hid hmq
  clear hr hm hmp hmq hp hq hN
  have H1 := Lib.hid h1
  have H2 := Lib.hid h2
  have H3 := Lib.hid h3
  have H4 := Lib.hid h4
  have H5 := Lib.hid h5
  clear h1 h2 h3 h4 h5
  go_enter Tryz.func207, Tryz.ntmps207
  go_wp2_with (first | (go_at_call 143; refine (withinB_is H1.out _).mono ?_; rintro e w' ⟨rfl, rfl⟩) | (refine wpList_load_box 85 _ rfl (w.heap.size + 1) rfl 85 N K0.nb _ Tryz.underlying85 rfl HZ.out (by simp [Region.wanted, yielded]) ?_))
  generalize ((w.alloc _).alloc _ : World) = w0 at K0 cN g0 g1 g2 g3 g4 ⊢
  refine (isShelfB_is H2.out A n cap w0 HM.out K0.row).mono ?_
  rintro e w1 ⟨rfl, hb⟩
  have K1 := K0.later hb
  clear hb K0 cN g0 g1 g2 g3 g4
  have cN := K1.nb.cell
  obtain ⟨g0, g1, g2, g3, g4⟩ := K1.gb.five
  go_wp2_with (refine wpList_load_box 85 _ rfl (w.heap.size + 1) rfl 85 N K1.nb _ Tryz.underlying85 rfl HZ.out (by simp [Region.wanted, yielded]) ?_)
  refine (stampsOkN_is HN.out H3.out w1).mono ?_
  rintro e w2 ⟨rfl, hb⟩
  have K2 := K1.later hb
  clear hb K1 cN g0 g1 g2 g3 g4
  have cN := K2.nb.cell
  obtain ⟨g0, g1, g2, g3, g4⟩ := K2.gb.five
  go_wp2_with (refine wpList_load_box 85 _ rfl (w.heap.size + 1) rfl 85 N K2.nb _ Tryz.underlying85 rfl HZ.out (by simp [Region.wanted, yielded]) ?_)
  refine (valuesOkN_is HN.out H4.out w2).mono ?_
  rintro e w3 ⟨rfl, hb⟩
  have K3 := K2.later hb
  clear hb K2 cN g0 g1 g2 g3 g4
  have cN := K3.nb.cell
  obtain ⟨g0, g1, g2, g3, g4⟩ := K3.gb.five
  go_wp2_with (refine wpList_load_box 85 _ rfl (w.heap.size + 1) rfl 85 N K3.nb _ Tryz.underlying85 rfl HZ.out (by simp [Region.wanted, yielded]) ?_)
  refine (sealsFitB_is H5.out P p pc w3 HMP.out K3.prs).mono ?_
  rintro e w4 ⟨rfl, hb⟩
  have K4 := K3.later hb
  clear hb K3 cN g0 g1 g2 g3 g4
  have E := K4.bel
  clear K4
  go_wp2
  go_ret
  exact ⟨rfl, E⟩

set_option maxHeartbeats 8000000 in
theorem note_5 {N : Array Value} {k1 k2 k3 k4 k5 t1 t2 v1 o1 o2 v2 : Int} {P : Option Addr} {p pc : Nat} {Q : Option Addr} {q qc : Nat} {l1 l2 v3 : Int} (hN : N = #[.int .i64 k1, .int .i64 k2, .int .i64 k3, .int .i64 k4, .int .i64 k5, .int .i64 t1, .int .i64 t2, .int .i64 v1, .int .i64 o1, .int .i64 o2, .int .i64 v2, .slice P p pc, .slice Q q qc, .int .i64 l1, .int .i64 l2, .int .i64 v3]) (s l c sh : Int) (A : Option Addr) (n cap : Nat) (zs : List Int) (ps qs : List (Int × Int)) (w : World) (hm : n ≤ maxLen) (hmp : p ≤ maxLen) (hmq : q ≤ maxLen) (hr : Row w w.heap.size A n zs) (hp : Pairs w w.heap.size P p ps) (hq : Pairs w w.heap.size Q q qs) (h1 : inB k4 0 100000 = true) (h2 : shfB s l c sh zs k5 = true) (h3 : stsB t1 t2 o1 o2 l1 l2 = true) (h4 : valsB v1 v2 v3 = true) (h5 : fitB ps = true) (h6 : fitB qs = false) :
    Calls Tryz.prog 207 #[.agg #[.int .i64 s, .int .i64 l, .int .i64 c, .int .i64 sh, .slice A n cap], .agg N] w fun e w' => e = .returned (.bool false) ∧ Below w.heap.size w w' := by
  have K0 := NGP.start w 85 26 N #[.int .i64 s, .int .i64 l, .int .i64 c, .int .i64 sh, .slice A n cap] A n zs P p ps Q q qs hr hp hq
  have HZ := Lib.hid (sizeN hN)
  obtain ⟨n0, n1, n2, n3, n4, n5, n6, n7, n8, n9, n10, n11, n12, n13, n14, n15⟩ := cellsN hN
  have HN := Lib.hid hN
  have HM := Lib.hid hm
  have cN := K0.nb.cell
  obtain ⟨g0, g1, g2, g3, g4⟩ := K0.gb.five
  have HMP := Lib.hid hmp
  have HMQ := Lib.hid hmq
  clear hr hm hmp hmq hp hq hN
  have H1 := Lib.hid h1
  have H2 := Lib.hid h2
  have H3 := Lib.hid h3
  have H4 := Lib.hid h4
  have H5 := Lib.hid h5
  have H6 := Lib.hid h6
  clear h1 h2 h3 h4 h5 h6
  go_enter Tryz.func207, Tryz.ntmps207
  go_wp2_with (first | (go_at_call 143; refine (withinB_is H1.out _).mono ?_; rintro e w' ⟨rfl, rfl⟩) | (refine wpList_load_box 85 _ rfl (w.heap.size + 1) rfl 85 N K0.nb _ Tryz.underlying85 rfl HZ.out (by simp [Region.wanted, yielded]) ?_))
  generalize ((w.alloc _).alloc _ : World) = w0 at K0 cN g0 g1 g2 g3 g4 ⊢
  refine (isShelfB_is H2.out A n cap w0 HM.out K0.row).mono ?_
  rintro e w1 ⟨rfl, hb⟩
  have K1 := K0.later hb
  clear hb K0 cN g0 g1 g2 g3 g4
  have cN := K1.nb.cell
  obtain ⟨g0, g1, g2, g3, g4⟩ := K1.gb.five
  go_wp2_with (refine wpList_load_box 85 _ rfl (w.heap.size + 1) rfl 85 N K1.nb _ Tryz.underlying85 rfl HZ.out (by simp [Region.wanted, yielded]) ?_)
  refine (stampsOkN_is HN.out H3.out w1).mono ?_
  rintro e w2 ⟨rfl, hb⟩
  have K2 := K1.later hb
  clear hb K1 cN g0 g1 g2 g3 g4
  have cN := K2.nb.cell
  obtain ⟨g0, g1, g2, g3, g4⟩ := K2.gb.five
  go_wp2_with (refine wpList_load_box 85 _ rfl (w.heap.size + 1) rfl 85 N K2.nb _ Tryz.underlying85 rfl HZ.out (by simp [Region.wanted, yielded]) ?_)
  refine (valuesOkN_is HN.out H4.out w2).mono ?_
  rintro e w3 ⟨rfl, hb⟩
  have K3 := K2.later hb
  clear hb K2 cN g0 g1 g2 g3 g4
  have cN := K3.nb.cell
  obtain ⟨g0, g1, g2, g3, g4⟩ := K3.gb.five
  go_wp2_with (refine wpList_load_box 85 _ rfl (w.heap.size + 1) rfl 85 N K3.nb _ Tryz.underlying85 rfl HZ.out (by simp [Region.wanted, yielded]) ?_)
  refine (sealsFitB_is H5.out P p pc w3 HMP.out K3.prs).mono ?_
  rintro e w4 ⟨rfl, hb⟩
  have K4 := K3.later hb
  clear hb K3 cN g0 g1 g2 g3 g4
  have cN := K4.nb.cell
  obtain ⟨g0, g1, g2, g3, g4⟩ := K4.gb.five
  go_wp2_with (refine wpList_load_box 85 _ rfl (w.heap.size + 1) rfl 85 N K4.nb _ Tryz.underlying85 rfl HZ.out (by simp [Region.wanted, yielded]) ?_)
  refine (sealsFitB_is H6.out Q q qc w4 HMQ.out K4.qrs).mono ?_
  rintro e w5 ⟨rfl, hb⟩
  have K5 := K4.later hb
  clear hb K4 cN g0 g1 g2 g3 g4
  have E := K5.bel
  clear K5
  go_wp2
  go_ret
  exact ⟨rfl, E⟩

set_option maxHeartbeats 8000000 in
theorem note_6 {N : Array Value} {k1 k2 k3 k4 k5 t1 t2 v1 o1 o2 v2 : Int} {P : Option Addr} {p pc : Nat} {Q : Option Addr} {q qc : Nat} {l1 l2 v3 : Int} (hN : N = #[.int .i64 k1, .int .i64 k2, .int .i64 k3, .int .i64 k4, .int .i64 k5, .int .i64 t1, .int .i64 t2, .int .i64 v1, .int .i64 o1, .int .i64 o2, .int .i64 v2, .slice P p pc, .slice Q q qc, .int .i64 l1, .int .i64 l2, .int .i64 v3]) (s l c sh : Int) (A : Option Addr) (n cap : Nat) (zs : List Int) (ps qs : List (Int × Int)) (w : World) (hm : n ≤ maxLen) (hmp : p ≤ maxLen) (hmq : q ≤ maxLen) (hr : Row w w.heap.size A n zs) (hp : Pairs w w.heap.size P p ps) (hq : Pairs w w.heap.size Q q qs) {b : Bool} (h1 : inB k4 0 100000 = true) (h2 : shfB s l c sh zs k5 = true) (h3 : stsB t1 t2 o1 o2 l1 l2 = true) (h4 : valsB v1 v2 v3 = true) (h5 : fitB ps = true) (h6 : fitB qs = true) (h7 : kdB s l c sh zs k1 k2 k3 (hvB t1 t2 v1 p) (hpB o1 o2 v2 l1 l2 v3 q) = b) :
    Calls Tryz.prog 207 #[.agg #[.int .i64 s, .int .i64 l, .int .i64 c, .int .i64 sh, .slice A n cap], .agg N] w fun e w' => e = .returned (.bool b) ∧ Below w.heap.size w w' := by
  have K0 := NGP.start w 85 26 N #[.int .i64 s, .int .i64 l, .int .i64 c, .int .i64 sh, .slice A n cap] A n zs P p ps Q q qs hr hp hq
  have HZ := Lib.hid (sizeN hN)
  obtain ⟨n0, n1, n2, n3, n4, n5, n6, n7, n8, n9, n10, n11, n12, n13, n14, n15⟩ := cellsN hN
  have HN := Lib.hid hN
  have HM := Lib.hid hm
  have cN := K0.nb.cell
  obtain ⟨g0, g1, g2, g3, g4⟩ := K0.gb.five
  have HMP := Lib.hid hmp
  have HMQ := Lib.hid hmq
  clear hr hm hmp hmq hp hq hN
  have H1 := Lib.hid h1
  have H2 := Lib.hid h2
  have H3 := Lib.hid h3
  have H4 := Lib.hid h4
  have H5 := Lib.hid h5
  have H6 := Lib.hid h6
  have H7 := Lib.hid h7
  clear h1 h2 h3 h4 h5 h6 h7
  go_enter Tryz.func207, Tryz.ntmps207
  go_wp2_with (first | (go_at_call 143; refine (withinB_is H1.out _).mono ?_; rintro e w' ⟨rfl, rfl⟩) | (refine wpList_load_box 85 _ rfl (w.heap.size + 1) rfl 85 N K0.nb _ Tryz.underlying85 rfl HZ.out (by simp [Region.wanted, yielded]) ?_))
  generalize ((w.alloc _).alloc _ : World) = w0 at K0 cN g0 g1 g2 g3 g4 ⊢
  refine (isShelfB_is H2.out A n cap w0 HM.out K0.row).mono ?_
  rintro e w1 ⟨rfl, hb⟩
  have K1 := K0.later hb
  clear hb K0 cN g0 g1 g2 g3 g4
  have cN := K1.nb.cell
  obtain ⟨g0, g1, g2, g3, g4⟩ := K1.gb.five
  go_wp2_with (refine wpList_load_box 85 _ rfl (w.heap.size + 1) rfl 85 N K1.nb _ Tryz.underlying85 rfl HZ.out (by simp [Region.wanted, yielded]) ?_)
  refine (stampsOkN_is HN.out H3.out w1).mono ?_
  rintro e w2 ⟨rfl, hb⟩
  have K2 := K1.later hb
  clear hb K1 cN g0 g1 g2 g3 g4
  have cN := K2.nb.cell
  obtain ⟨g0, g1, g2, g3, g4⟩ := K2.gb.five
  go_wp2_with (refine wpList_load_box 85 _ rfl (w.heap.size + 1) rfl 85 N K2.nb _ Tryz.underlying85 rfl HZ.out (by simp [Region.wanted, yielded]) ?_)
  refine (valuesOkN_is HN.out H4.out w2).mono ?_
  rintro e w3 ⟨rfl, hb⟩
  have K3 := K2.later hb
  clear hb K2 cN g0 g1 g2 g3 g4
  have cN := K3.nb.cell
  obtain ⟨g0, g1, g2, g3, g4⟩ := K3.gb.five
  go_wp2_with (refine wpList_load_box 85 _ rfl (w.heap.size + 1) rfl 85 N K3.nb _ Tryz.underlying85 rfl HZ.out (by simp [Region.wanted, yielded]) ?_)
  refine (sealsFitB_is H5.out P p pc w3 HMP.out K3.prs).mono ?_
  rintro e w4 ⟨rfl, hb⟩
  have K4 := K3.later hb
  clear hb K3 cN g0 g1 g2 g3 g4
  have cN := K4.nb.cell
  obtain ⟨g0, g1, g2, g3, g4⟩ := K4.gb.five
  go_wp2_with (refine wpList_load_box 85 _ rfl (w.heap.size + 1) rfl 85 N K4.nb _ Tryz.underlying85 rfl HZ.out (by simp [Region.wanted, yielded]) ?_)
  refine (sealsFitB_is H6.out Q q qc w4 HMQ.out K4.qrs).mono ?_
  rintro e w5 ⟨rfl, hb⟩
  have K5 := K4.later hb
  clear hb K4 cN g0 g1 g2 g3 g4
  have cN := K5.nb.cell
  obtain ⟨g0, g1, g2, g3, g4⟩ := K5.gb.five
  go_wp2_with (refine wpList_load_box 85 _ rfl (w.heap.size + 1) rfl 85 N K5.nb _ Tryz.underlying85 rfl HZ.out (by simp [Region.wanted, yielded]) ?_)
  refine (kindOkN_is HN.out H7.out A n cap w5 HM.out K5.row).mono ?_
  rintro e w6 ⟨rfl, hb⟩
  have K6 := K5.later hb
  clear hb K5 cN g0 g1 g2 g3 g4
  have E := K6.bel
  clear K6
  go_wp2
  go_ret
  exact ⟨by cases b <;> rfl, E⟩

theorem noteN_is {N : Array Value} {k1 k2 k3 k4 k5 t1 t2 v1 o1 o2 v2 : Int} {P : Option Addr} {p pc : Nat} {Q : Option Addr} {q qc : Nat} {l1 l2 v3 : Int} (hN : N = #[.int .i64 k1, .int .i64 k2, .int .i64 k3, .int .i64 k4, .int .i64 k5, .int .i64 t1, .int .i64 t2, .int .i64 v1, .int .i64 o1, .int .i64 o2, .int .i64 v2, .slice P p pc, .slice Q q qc, .int .i64 l1, .int .i64 l2, .int .i64 v3]) (s l c sh : Int) (A : Option Addr) (n cap : Nat) (zs : List Int) (ps qs : List (Int × Int)) (w : World) (hm : n ≤ maxLen) (hmp : p ≤ maxLen) (hmq : q ≤ maxLen) (hr : Row w w.heap.size A n zs) (hp : Pairs w w.heap.size P p ps) (hq : Pairs w w.heap.size Q q qs) :
    Calls Tryz.prog 207 #[.agg #[.int .i64 s, .int .i64 l, .int .i64 c, .int .i64 sh, .slice A n cap], .agg N] w fun e w' => e = .returned (.bool (ntB s l c sh zs k1 k2 k3 k4 k5 t1 t2 v1 o1 o2 v2 ps qs l1 l2 v3)) ∧ Below w.heap.size w w' := by
  have hlp := hp.1
  have hlq := hq.1
  unfold ntB
  rw [hlp, hlq]
  rcases h1 : inB k4 0 100000 with _ | _
  · exact note_0 hN s l c sh A n cap zs ps qs w hm hmp hmq hr hp hq h1
  rcases h2 : shfB s l c sh zs k5 with _ | _
  · exact note_1 hN s l c sh A n cap zs ps qs w hm hmp hmq hr hp hq h1 h2
  rcases h3 : stsB t1 t2 o1 o2 l1 l2 with _ | _
  · exact note_2 hN s l c sh A n cap zs ps qs w hm hmp hmq hr hp hq h1 h2 h3
  rcases h4 : valsB v1 v2 v3 with _ | _
  · exact note_3 hN s l c sh A n cap zs ps qs w hm hmp hmq hr hp hq h1 h2 h3 h4
  rcases h5 : fitB ps with _ | _
  · exact note_4 hN s l c sh A n cap zs ps qs w hm hmp hmq hr hp hq h1 h2 h3 h4 h5
  rcases h6 : fitB qs with _ | _
  · exact note_5 hN s l c sh A n cap zs ps qs w hm hmp hmq hr hp hq h1 h2 h3 h4 h5 h6
  simp only [Bool.true_and]
  exact note_6 hN s l c sh A n cap zs ps qs w hm hmp hmq hr hp hq h1 h2 h3 h4 h5 h6 rfl

end Go.Proofs.YtjdepjpjjgkmbaaGreat
