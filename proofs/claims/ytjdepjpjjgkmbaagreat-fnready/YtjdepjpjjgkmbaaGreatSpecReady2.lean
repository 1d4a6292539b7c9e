/- What the model's CodeReady answers: its contract; conditions: the sizes. -/
import Derived.Test.YtjdepjpjjgkmbaaGreatSpecReady1
namespace Go.Proofs.YtjdepjpjjgkmbaaGreat
open Go.RowKit

theorem specProvenB8_is {s l c sh : Int} {zs : List Int} {x ct cq v : Int} {ps : List (Int × Int)} {b : Bool} (hb : proB s l c sh zs x ct cq v ps = b) (A : Option Addr) (n cap : Nat) (P : Option Addr) (m pcap : Nat) (w : World) (hm : n ≤ maxLen) (hr : Row w w.heap.size A n zs) (hn : m ≤ 4194304) (h : Pairs w w.heap.size P m ps) :
    Calls Tryz.prog 152 #[.agg #[.int .i64 s, .int .i64 l, .int .i64 c, .int .i64 sh, .slice A n cap], .int .i64 x, .agg #[.int .i64 ct, .int .i64 cq], .int .i64 v, .slice P m pcap] w fun e w' => e = .returned (.bool b) ∧ Below w.heap.size w w' := hb ▸ specProven_is s l c sh A n cap zs x ct cq v P m pcap ps w hm hr hn h

section
variable {s l c sh : Int} {A : Option Addr} {n cap : Nat} {zs : List Int} {rt rq rv : Int} {X : Option Addr} {x xc : Nat} {ps : List (Int × Int)} {Y : Option Addr} {y yc : Nat} {os : List Opn} {N : Array Value} {k1 k2 k3 k4 k5 t1 t2 v1 o1 o2 v2 : Int} {P : Option Addr} {p pc : Nat} {Q : Option Addr} {q qc : Nat} {l1 l2 v3 : Int} {cs ms : List (Int × Int)} {w : World}

set_option maxHeartbeats 8000000 in
theorem specCode_is (hN : N = #[.int .i64 k1, .int .i64 k2, .int .i64 k3, .int .i64 k4, .int .i64 k5, .int .i64 t1, .int .i64 t2, .int .i64 v1, .int .i64 o1, .int .i64 o2, .int .i64 v2, .slice P p pc, .slice Q q qc, .int .i64 l1, .int .i64 l2, .int .i64 v3]) (I : In8 w A n zs X x xc ps Y y yc os P p cs Q q ms) {z : Int} (h : codeN s l c sh zs rt rq rv ps os k1 k2 k3 k4 k5 t1 t2 v1 o1 o2 v2 l1 l2 v3 cs ms = z) :
    Calls Tryz.prog 95 #[.agg #[.int .i64 s, .int .i64 l, .int .i64 c, .int .i64 sh, .slice A n cap], .agg #[.int .i64 rt, .int .i64 rq, .int .i64 rv, .slice X x xc, .slice Y y yc], .agg N] w fun e w' => e = .returned (.int .i64 z) ∧ Below w.heap.size w w' := by
  have K0 := K8.start w N s l c sh cap rt rq rv I
  have HZ := Lib.hid (sizeN hN)
  obtain ⟨n0, n1, n2, n3, n4, n5, n6, n7, n8, n9, n10, n11, n12, n13, n14, n15⟩ := cellsN hN
  have HN := Lib.hid hN
  have HD := Lib.hid h
  have cN := K0.nb.cell
  obtain ⟨g0, g1, g2, g3, g4⟩ := K0.gb.five
  obtain ⟨b0, hb0⟩ : ∃ b, ntB s l c sh zs k1 k2 k3 k4 k5 t1 t2 v1 o1 o2 v2 cs ms l1 l2 v3 = b := ⟨_, rfl⟩
  have HB0 := Lib.hid hb0
  clear hN I h n2 n3 n7 n12 n13 n14 n15
  go_enter Tryz.func95, Tryz.ntmps95
  go_wp2_with (refine wpList_load_box 85 _ rfl (w.heap.size + 1 + 1) rfl 85 N K0.nb _ Tryz.underlying85 rfl HZ.out (by first | simp [Region.wanted, yielded] | (simp [Region.wanted, yielded, Act.put] <;> omega)) ?_)
  generalize (((w.alloc _).alloc _).alloc _ : World) = w0 at K0 cN g0 g1 g2 g3 g4 ⊢
  refine (specNoteOkB_is HN.out HB0.out K0.inp).mono ?_
  rintro e w1 ⟨rfl, hb⟩
  have K1 := K0.later hb
  clear K0 cN g0 g1 g2 g3 g4 hb
  have cN := K1.nb.cell
  rcases b0 with _ | _
  · have HC : Hid (z = 1) := Lib.hid (by rw [← HD.out]; exact code_0 (ob0_not hb0))
    have E := K1.bel
    clear K1 hb0
    go_wp2
    go_ret
    exact ⟨by rw [HC.out]; rfl, E⟩
  by_cases hk : k1 = 3
  rotate_left
  · have HC : Hid (z = 1) := Lib.hid (by rw [← HD.out]; exact code_0 (ob0_kind hk))
    have hk' : (k1 != 3) = true := by simpa using hk
    have E := K1.bel
    clear K1 hb0 hk
    go_wp2
    go_ret
    exact ⟨by rw [HC.out]; rfl, E⟩
  have H0 : Hid (obB s l c sh zs rt rq rv ps os k1 k2 k3 k4 k5 t1 t2 v1 o1 o2 v2 l1 l2 v3 cs ms 0 = false) := Lib.hid (ob0_yes hk hb0)
  have hk' : (k1 != 3) = false := by simpa using hk
  clear hk hb0
  obtain ⟨b1, hb1⟩ : ∃ b, regB s l c sh zs k5 rt rq rv ps os = b := ⟨_, rfl⟩
  have HB1 := Lib.hid hb1
  obtain ⟨g0, g1, g2, g3, g4⟩ := K1.gb.five
  obtain ⟨r0, r1, r2, r3, r4⟩ := K1.rb.five
  clear hb1
  go_wp2_with fail
  refine (specShelfB8_is HB1.out A n cap X x xc Y y yc w1 K1.inp.hn K1.inp.row (by have := K1.inp.hx; omega) (by have := K1.inp.hy; omega) K1.inp.prs K1.inp.ops).mono ?_
  rintro e w2 ⟨rfl, hb⟩
  have K2 := K1.later hb
  clear K1 cN g0 g1 g2 g3 g4 r0 r1 r2 r3 r4 hb
  have cN := K2.nb.cell
  rcases b1 with _ | _
  · have HC : Hid (z = 1) := Lib.hid (by rw [← HD.out]; exact code_1 H0.out (by rw [obB_1, HB1.out]; rfl))
    have E := K2.bel
    clear K2
    go_wp2
    go_ret
    exact ⟨by rw [HC.out]; rfl, E⟩
  have H1 : Hid (obB s l c sh zs rt rq rv ps os k1 k2 k3 k4 k5 t1 t2 v1 o1 o2 v2 l1 l2 v3 cs ms 1 = false) := Lib.hid (by rw [obB_1, HB1.out]; rfl)
  clear hk' HB1 n0
  go_wp2_with fail
  refine (specNext_any o1 o2 k2 w2).mono ?_
  rcases hx : nxB o1 o2 k2 with _ | _
  · have HC : Hid (z = 2) := Lib.hid (by rw [← HD.out]; exact code_2 H0.out H1.out (ob2_not hx))
    have HX := Lib.hid (nxV_no hx)
    clear hx
    rw [HX.out]
    rintro e w3 ⟨rfl, hb⟩
    have E := bel_trans (bel_trans K2.bel hb) (bel_alloc w3 (.cells #[.int .i64 0, .int .i64 0] 39))
    clear K2 cN hb
    go_wp2
    go_ret
    exact ⟨by rw [HC.out]; rfl, E⟩
  have HX := Lib.hid (nxV_yes hx)
  have hcase : (o1 + 1 = t1 ∧ k2 = t2 ∧ obB s l c sh zs rt rq rv ps os k1 k2 k3 k4 k5 t1 t2 v1 o1 o2 v2 l1 l2 v3 cs ms 2 = false) ∨ (((o1 + 1 == t1) = false ∨ ((o1 + 1 == t1) = true ∧ (k2 == t2) = false)) ∧ obB s l c sh zs rt rq rv ps os k1 k2 k3 k4 k5 t1 t2 v1 o1 o2 v2 l1 l2 v3 cs ms 2 = true) := by
    by_cases h1 : o1 + 1 = t1
    · by_cases h2 : k2 = t2
      · exact .inl ⟨h1, h2, ob2_yes hx h1.symm h2.symm⟩
      · exact .inr ⟨.inr ⟨by simpa using h1, by simpa using h2⟩, ob2_else fun e => h2 e.2.symm⟩
    · exact .inr ⟨.inl (by simpa using h1), ob2_else fun e => h1 e.1.symm⟩
  clear hx
  rw [HX.out]
  rintro e w3 ⟨rfl, hb⟩
  replace K2 := (K2.later hb).later (bel_alloc w3 (.cells #[.int .i64 (o1 + 1), .int .i64 k2] 39))
  have D3 := Box.new w3 39 #[.int .i64 (o1 + 1), .int .i64 k2]
  go_upto_region 4 with fail
  generalize (w3.alloc _ : World) = w4 at K2 D3 ⊢
  generalize w3.heap.size = S at D3 ⊢
  clear cN hb
  have cN := K2.nb.cell
  obtain ⟨d0, d1⟩ := D3.two
  have hor : obB s l c sh zs rt rq rv ps os k1 k2 k3 k4 k5 t1 t2 v1 o1 o2 v2 l1 l2 v3 cs ms 2 = true ∨ (o1 + 1 = t1 ∧ k2 = t2 ∧ obB s l c sh zs rt rq rv ps os k1 k2 k3 k4 k5 t1 t2 v1 o1 o2 v2 l1 l2 v3 cs ms 2 = false) := by
    rcases hcase with h | ⟨-, h⟩
    · exact .inr h
    · exact .inl h
  rcases hcase with ⟨e1, e2, h2⟩ | ⟨hne, h2⟩
  rotate_left
  · have HC : Hid (z = 2) := Lib.hid (by rw [← HD.out]; exact code_2 H0.out H1.out h2)
    have E := K2.bel
    clear K2 h2 hor D3
    rcases hne with hne | ⟨h1, hne⟩
    · go_wp2
      go_ret
      exact ⟨by rw [HC.out]; rfl, E⟩
    · go_wp2
      go_ret
      exact ⟨by rw [HC.out]; rfl, E⟩
  have H2 := Lib.hid h2
  clear hor h2 D3
  obtain ⟨b3, hb3⟩ : ∃ b, proB s l c sh zs k5 o1 o2 v2 cs = b := ⟨_, rfl⟩
  have HB3 := Lib.hid hb3
  obtain ⟨g0, g1, g2, g3, g4⟩ := K2.gb.five
  have e1' : (o1 + 1 == t1) = true := by simpa using e1
  have e2' : (k2 == t2) = true := by simpa using e2
  have e1n : (o1 + 1 != t1) = false := by simpa using e1
  have e2n : (k2 != t2) = false := by simpa using e2
  clear hb3 e1 e2
  go_wp2_with fail
  refine (specProvenB8_is HB3.out A n cap P p pc w4 K2.inp.hn K2.inp.row (by have := K2.inp.hp; omega) K2.inp.crs).mono ?_
  rintro e w5 ⟨rfl, hb⟩
  have K3 := K2.later hb
  clear K2 cN g0 g1 g2 g3 g4 d0 d1 hb e1' e2' e1n e2n
  rcases b3 with _ | _
  · have HC : Hid (z = 3) := Lib.hid (by rw [← HD.out]; exact code_3 H0.out H1.out H2.out (by rw [obB_3, HB3.out]; rfl))
    have E := K3.bel
    clear K3
    go_wp2
    go_ret
    exact ⟨by rw [HC.out]; rfl, E⟩
  have H3 : Hid (obB s l c sh zs rt rq rv ps os k1 k2 k3 k4 k5 t1 t2 v1 o1 o2 v2 l1 l2 v3 cs ms 3 = false) := Lib.hid (by rw [obB_3, HB3.out]; rfl)
  obtain ⟨b4, hb4⟩ : ∃ b, agS s l c sh zs os k2 k5 t1 t2 v1 l1 l2 v3 ms = b := ⟨_, rfl⟩
  have HC : Hid (z = if b4 = true then 4 else 0) := Lib.hid (by rw [← HD.out, code_spec H0.out H1.out H2.out H3.out, hb4])
  have HB4 := Lib.hid hb4
  obtain ⟨g0, g1, g2, g3, g4⟩ := K3.gb.five
  obtain ⟨r0, r1, r2, r3, r4⟩ := K3.rb.five
  clear hb4 n1 n4 n5 n6 n8 n9 n10 n11
  go_wp2_with (refine wpList_load_box 85 _ rfl (w.heap.size + 1 + 1) rfl 85 N K3.nb _ Tryz.underlying85 rfl HZ.out (by first | simp [Region.wanted, yielded] | (simp [Region.wanted, yielded, Act.put] <;> omega)) ?_)
  refine (against_is HN.out K3.inp HB4.out).mono ?_
  rintro e w6 ⟨rfl, hb⟩
  have E := bel_trans K3.bel hb
  clear K3 g0 g1 g2 g3 g4 r0 r1 r2 r3 r4
  rcases b4 with _ | _
  · have HC2 : Hid (z = 0) := Lib.hid HC.out
    go_wp2
    go_ret
    exact ⟨by rw [HC2.out]; rfl, E⟩
  · have HC2 : Hid (z = 4) := Lib.hid HC.out
    go_wp2
    go_ret
    exact ⟨by rw [HC2.out]; rfl, E⟩

end
end Go.Proofs.YtjdepjpjjgkmbaaGreat
