/- What the seven objections answer: contracts of each of them; conditions: the sizes. -/
import Derived.Test.YtjdepjpjjgkmbaaGreatReadyIn
import Derived.Test.YtjdepjpjjgkmbaaGreatNote4
namespace Go.Proofs.YtjdepjpjjgkmbaaGreat
open Go.RowKit

theorem shelfB8_is {s l c sh : Int} {zs : List Int} {z rt rq rv : Int} {ps : List (Int × Int)} {os : List Opn} {b : Bool} (hB : regB s l c sh zs z rt rq rv ps os = b) (A : Option Addr) (n cap : Nat) (P : Option Addr) (p pc : Nat) (Q : Option Addr) (q qc : Nat) (w : World) (hm : n ≤ maxLen) (hr : Row w w.heap.size A n zs) (hp : p ≤ 4194304) (hq : q ≤ 4194304) (h1 : Pairs w w.heap.size P p ps) (h2 : Quads w w.heap.size Q q os) :
    Calls Tryz.prog 155 #[.agg #[.int .i64 s, .int .i64 l, .int .i64 c, .int .i64 sh, .slice A n cap], .int .i64 z, .agg #[.int .i64 rt, .int .i64 rq, .int .i64 rv, .slice P p pc, .slice Q q qc]] w fun e w' => e = .returned (.bool b) ∧ Below w.heap.size w w' := hB ▸ regOk_is s l c sh A n cap zs z rt rq rv P p pc Q q qc ps os w hm hr hp hq h1 h2
theorem newerB_is {a b c d : Int} {r : Bool} (h : (cmpN a b c d == 1) = r) (w : World) :
    Calls Tryz.prog 210 #[.agg #[.int .i64 a, .int .i64 b], .agg #[.int .i64 c, .int .i64 d]] w fun e w' => e = .returned (.bool r) ∧ Below w.heap.size w w' := h ▸ newer_any a b c d w

section
variable {s l c sh : Int} {A : Option Addr} {n cap : Nat} {zs : List Int} {rt rq rv : Int} {X : Option Addr} {x xc : Nat} {ps : List (Int × Int)} {Y : Option Addr} {y yc : Nat} {os : List Opn} {N : Array Value} {k1 k2 k3 k4 k5 t1 t2 v1 o1 o2 v2 : Int} {P : Option Addr} {p pc : Nat} {Q : Option Addr} {q qc : Nat} {l1 l2 v3 : Int} {cs ms : List (Int × Int)} {w : World}

theorem noteOkB_is (hN : N = #[.int .i64 k1, .int .i64 k2, .int .i64 k3, .int .i64 k4, .int .i64 k5, .int .i64 t1, .int .i64 t2, .int .i64 v1, .int .i64 o1, .int .i64 o2, .int .i64 v2, .slice P p pc, .slice Q q qc, .int .i64 l1, .int .i64 l2, .int .i64 v3]) {b : Bool} (h : ntB s l c sh zs k1 k2 k3 k4 k5 t1 t2 v1 o1 o2 v2 cs ms l1 l2 v3 = b) (I : In8 w A n zs X x xc ps Y y yc os P p cs Q q ms) :
    Calls Tryz.prog 207 #[.agg #[.int .i64 s, .int .i64 l, .int .i64 c, .int .i64 sh, .slice A n cap], .agg N] w fun e w' => e = .returned (.bool b) ∧ Below w.heap.size w w' :=
  h ▸ noteN_is hN s l c sh A n cap zs cs ms w I.hn (by unfold maxLen; have := I.hp; omega) (by unfold maxLen; have := I.hq; omega) I.row I.crs I.mrs

set_option maxHeartbeats 2000000 in
theorem ob0_is (hN : N = #[.int .i64 k1, .int .i64 k2, .int .i64 k3, .int .i64 k4, .int .i64 k5, .int .i64 t1, .int .i64 t2, .int .i64 v1, .int .i64 o1, .int .i64 o2, .int .i64 v2, .slice P p pc, .slice Q q qc, .int .i64 l1, .int .i64 l2, .int .i64 v3]) (I : In8 w A n zs X x xc ps Y y yc os P p cs Q q ms) {b : Bool} (h : obB s l c sh zs rt rq rv ps os k1 k2 k3 k4 k5 t1 t2 v1 o1 o2 v2 l1 l2 v3 cs ms 0 = b) :
    Calls Tryz.prog 166 #[.agg #[.int .i64 s, .int .i64 l, .int .i64 c, .int .i64 sh, .slice A n cap], .agg #[.int .i64 rt, .int .i64 rq, .int .i64 rv, .slice X x xc, .slice Y y yc], .agg N] w fun e w' => e = .returned (.bool b) ∧ Below w.heap.size w w' := by
  have K0 := K8.start w N s l c sh cap rt rq rv I
  have HZ := Lib.hid (sizeN hN)
  obtain ⟨n0, n1, n2, n3, n4, n5, n6, n7, n8, n9, n10, n11, n12, n13, n14, n15⟩ := cellsN hN
  have HN := Lib.hid hN
  have cN := K0.nb.cell
  obtain ⟨g0, g1, g2, g3, g4⟩ := K0.gb.five
  clear hN I n1 n2 n3 n4 n5 n6 n7 n8 n9 n10 n11 n12 n13 n14 n15
  subst h
  by_cases hk : k1 = 3
  · rcases hn : ntB s l c sh zs k1 k2 k3 k4 k5 t1 t2 v1 o1 o2 v2 cs ms l1 l2 v3 with _ | _
    · have HV := Lib.hid (show obB s l c sh zs rt rq rv ps os k1 k2 k3 k4 k5 t1 t2 v1 o1 o2 v2 l1 l2 v3 cs ms 0 = true from ob0_not hn)
      have HB := Lib.hid hn
      clear hn
      have hk' : (k1 != 3) = false := by simpa using hk
      clear hk
      go_enter Tryz.func166, Tryz.ntmps166
      go_wp2_with (refine wpList_load_box 85 _ rfl (w.heap.size + 1 + 1) rfl 85 N K0.nb _ Tryz.underlying85 rfl HZ.out (by simp [Region.wanted, yielded]) ?_)
      generalize (((w.alloc _).alloc _).alloc _ : World) = w0 at K0 cN g0 g1 g2 g3 g4 ⊢
      refine (noteOkB_is HN.out HB.out K0.inp).mono ?_
      rintro e w1 ⟨rfl, hb⟩
      have E := bel_trans K0.bel hb
      clear K0 cN g0 g1 g2 g3 g4
      go_wp2
      go_ret
      exact ⟨by rw [HV.out]; rfl, E⟩
    · have HV := Lib.hid (show obB s l c sh zs rt rq rv ps os k1 k2 k3 k4 k5 t1 t2 v1 o1 o2 v2 l1 l2 v3 cs ms 0 = false from ob0_yes hk hn)
      have HB := Lib.hid hn
      clear hn
      have hk' : (k1 != 3) = false := by simpa using hk
      clear hk
      go_enter Tryz.func166, Tryz.ntmps166
      go_wp2_with (refine wpList_load_box 85 _ rfl (w.heap.size + 1 + 1) rfl 85 N K0.nb _ Tryz.underlying85 rfl HZ.out (by simp [Region.wanted, yielded]) ?_)
      generalize (((w.alloc _).alloc _).alloc _ : World) = w0 at K0 cN g0 g1 g2 g3 g4 ⊢
      refine (noteOkB_is HN.out HB.out K0.inp).mono ?_
      rintro e w1 ⟨rfl, hb⟩
      have E := bel_trans K0.bel hb
      clear K0 cN g0 g1 g2 g3 g4
      go_wp2
      go_ret
      exact ⟨by rw [HV.out]; rfl, E⟩
  · have HV := Lib.hid (show obB s l c sh zs rt rq rv ps os k1 k2 k3 k4 k5 t1 t2 v1 o1 o2 v2 l1 l2 v3 cs ms 0 = true from ob0_kind hk)
    have hk' : (k1 != 3) = true := by simpa using hk
    have E := K0.bel
    clear hk
    go_enter Tryz.func166, Tryz.ntmps166
    go_wp2
    go_ret
    exact ⟨by rw [HV.out]; rfl, E⟩

set_option maxHeartbeats 2000000 in
theorem ob1_is (hN : N = #[.int .i64 k1, .int .i64 k2, .int .i64 k3, .int .i64 k4, .int .i64 k5, .int .i64 t1, .int .i64 t2, .int .i64 v1, .int .i64 o1, .int .i64 o2, .int .i64 v2, .slice P p pc, .slice Q q qc, .int .i64 l1, .int .i64 l2, .int .i64 v3]) (I : In8 w A n zs X x xc ps Y y yc os P p cs Q q ms) {b : Bool} (h : obB s l c sh zs rt rq rv ps os k1 k2 k3 k4 k5 t1 t2 v1 o1 o2 v2 l1 l2 v3 cs ms 1 = b) :
    Calls Tryz.prog 167 #[.agg #[.int .i64 s, .int .i64 l, .int .i64 c, .int .i64 sh, .slice A n cap], .agg #[.int .i64 rt, .int .i64 rq, .int .i64 rv, .slice X x xc, .slice Y y yc], .agg N] w fun e w' => e = .returned (.bool b) ∧ Below w.heap.size w w' := by
  have K0 := K8.start w N s l c sh cap rt rq rv I
  obtain ⟨n0, n1, n2, n3, n4, n5, n6, n7, n8, n9, n10, n11, n12, n13, n14, n15⟩ := cellsN hN
  have cN := K0.nb.cell
  obtain ⟨g0, g1, g2, g3, g4⟩ := K0.gb.five
  obtain ⟨r0, r1, r2, r3, r4⟩ := K0.rb.five
  clear hN I n0 n1 n2 n3 n5 n6 n7 n8 n9 n10 n11 n12 n13 n14 n15
  obtain ⟨r, hr⟩ : ∃ r, regB s l c sh zs k5 rt rq rv ps os = r := ⟨_, rfl⟩
  have HV := Lib.hid (show b = !r by rw [← h, ← hr]; rfl)
  have HR := Lib.hid hr
  clear hr h
  go_enter Tryz.func167, Tryz.ntmps167
  go_wp2_with fail
  generalize (((w.alloc _).alloc _).alloc _ : World) = w0 at K0 cN g0 g1 g2 g3 g4 r0 r1 r2 r3 r4 ⊢
  refine (shelfB8_is HR.out A n cap X x xc Y y yc w0 K0.inp.hn K0.inp.row (by have := K0.inp.hx; omega) (by have := K0.inp.hy; omega) K0.inp.prs K0.inp.ops).mono ?_
  rintro e w1 ⟨rfl, hb⟩
  have E := bel_trans K0.bel hb
  clear K0 cN g0 g1 g2 g3 g4 r0 r1 r2 r3 r4
  go_wp2
  go_ret
  exact ⟨by rw [HV.out]; rfl, E⟩

set_option maxHeartbeats 2000000 in
theorem ob2_is (hN : N = #[.int .i64 k1, .int .i64 k2, .int .i64 k3, .int .i64 k4, .int .i64 k5, .int .i64 t1, .int .i64 t2, .int .i64 v1, .int .i64 o1, .int .i64 o2, .int .i64 v2, .slice P p pc, .slice Q q qc, .int .i64 l1, .int .i64 l2, .int .i64 v3]) (I : In8 w A n zs X x xc ps Y y yc os P p cs Q q ms) {b : Bool} (h : obB s l c sh zs rt rq rv ps os k1 k2 k3 k4 k5 t1 t2 v1 o1 o2 v2 l1 l2 v3 cs ms 2 = b) :
    Calls Tryz.prog 168 #[.agg #[.int .i64 s, .int .i64 l, .int .i64 c, .int .i64 sh, .slice A n cap], .agg #[.int .i64 rt, .int .i64 rq, .int .i64 rv, .slice X x xc, .slice Y y yc], .agg N] w fun e w' => e = .returned (.bool b) ∧ Below w.heap.size w w' := by
  have K0 := K8.start w N s l c sh cap rt rq rv I
  obtain ⟨n0, n1, n2, n3, n4, n5, n6, n7, n8, n9, n10, n11, n12, n13, n14, n15⟩ := cellsN hN
  have cN := K0.nb.cell
  clear hN I n0 n2 n3 n4 n7 n10 n11 n12 n13 n14 n15
  subst h
  rcases hx : nxB o1 o2 k2 with _ | _
  · have HV := Lib.hid (show obB s l c sh zs rt rq rv ps os k1 k2 k3 k4 k5 t1 t2 v1 o1 o2 v2 l1 l2 v3 cs ms 2 = true from ob2_not hx)
    have HX := Lib.hid (nxV_no hx)
    clear hx
    go_enter Tryz.func168, Tryz.ntmps168
    go_wp2_with fail
    generalize (((w.alloc _).alloc _).alloc _ : World) = w0 at K0 cN ⊢
    refine (nextStamp_any o1 o2 k2 w0).mono ?_
    rw [HX.out]
    rintro e w1 ⟨rfl, hb⟩
    have E := bel_trans (bel_trans K0.bel hb) (bel_alloc w1 (.cells #[.int .i64 0, .int .i64 0] 39))
    replace K0 := K0.later hb
    clear cN
    have cN := K0.nb.cell
    clear K0
    go_wp2
    go_ret
    exact ⟨by rw [HV.out]; rfl, E⟩
  · have HX := Lib.hid (nxV_yes hx)
    have hcase : (t1 = o1 + 1 ∧ t2 = k2 ∧ obB s l c sh zs rt rq rv ps os k1 k2 k3 k4 k5 t1 t2 v1 o1 o2 v2 l1 l2 v3 cs ms 2 = false) ∨ (((t1 == o1 + 1) = false ∨ ((t1 == o1 + 1) = true ∧ (t2 == k2) = false)) ∧ obB s l c sh zs rt rq rv ps os k1 k2 k3 k4 k5 t1 t2 v1 o1 o2 v2 l1 l2 v3 cs ms 2 = true) := by
      by_cases h1 : t1 = o1 + 1
      · by_cases h2 : t2 = k2
        · exact .inl ⟨h1, h2, ob2_yes hx h1 h2⟩
        · exact .inr ⟨.inr ⟨by simpa using h1, by simpa using h2⟩, ob2_else fun e => h2 e.2⟩
      · exact .inr ⟨.inl (by simpa using h1), ob2_else fun e => h1 e.1⟩
    clear hx
    rcases hcase with ⟨rfl, rfl, HV⟩ | ⟨hne | ⟨h1, hne⟩, HV⟩ <;> replace HV := Lib.hid HV
    all_goals
      go_enter Tryz.func168, Tryz.ntmps168
      go_wp2_with fail
      generalize (((w.alloc _).alloc _).alloc _ : World) = w0 at K0 cN ⊢
      refine (nextStamp_any o1 o2 _ w0).mono ?_
      rw [HX.out]
      rintro e w1 ⟨rfl, hb⟩
      have E := bel_trans K0.bel hb
      replace K0 := K0.later hb
      clear cN
      have cN := K0.nb.cell
      have hl := K0.nb.lt
      clear K0
      go_wp2
      go_ret
      exact ⟨by rw [HV.out]; rfl, bel_trans E (bel_alloc _ _)⟩

set_option maxHeartbeats 2000000 in
theorem ob3_is (hN : N = #[.int .i64 k1, .int .i64 k2, .int .i64 k3, .int .i64 k4, .int .i64 k5, .int .i64 t1, .int .i64 t2, .int .i64 v1, .int .i64 o1, .int .i64 o2, .int .i64 v2, .slice P p pc, .slice Q q qc, .int .i64 l1, .int .i64 l2, .int .i64 v3]) (I : In8 w A n zs X x xc ps Y y yc os P p cs Q q ms) {b : Bool} (h : obB s l c sh zs rt rq rv ps os k1 k2 k3 k4 k5 t1 t2 v1 o1 o2 v2 l1 l2 v3 cs ms 3 = b) :
    Calls Tryz.prog 169 #[.agg #[.int .i64 s, .int .i64 l, .int .i64 c, .int .i64 sh, .slice A n cap], .agg #[.int .i64 rt, .int .i64 rq, .int .i64 rv, .slice X x xc, .slice Y y yc], .agg N] w fun e w' => e = .returned (.bool b) ∧ Below w.heap.size w w' := by
  have K0 := K8.start w N s l c sh cap rt rq rv I
  obtain ⟨n0, n1, n2, n3, n4, n5, n6, n7, n8, n9, n10, n11, n12, n13, n14, n15⟩ := cellsN hN
  have cN := K0.nb.cell
  obtain ⟨g0, g1, g2, g3, g4⟩ := K0.gb.five
  clear hN I n0 n1 n2 n3 n5 n6 n7 n12 n13 n14 n15
  obtain ⟨r, hr⟩ : ∃ r, proB s l c sh zs k5 o1 o2 v2 cs = r := ⟨_, rfl⟩
  have HV := Lib.hid (show b = !r by rw [← h, ← hr]; rfl)
  have HR := Lib.hid hr
  clear hr h
  go_enter Tryz.func169, Tryz.ntmps169
  go_wp2_with fail
  generalize (((w.alloc _).alloc _).alloc _ : World) = w0 at K0 cN g0 g1 g2 g3 g4 ⊢
  refine (provenR_is HR.out A n cap P p pc w0 K0.inp.hn K0.inp.row (by have := K0.inp.hp; omega) K0.inp.crs).mono ?_
  rintro e w1 ⟨rfl, hb⟩
  have E := bel_trans K0.bel hb
  clear K0 cN g0 g1 g2 g3 g4
  go_wp2
  go_ret
  exact ⟨by rw [HV.out]; rfl, E⟩

set_option maxHeartbeats 2000000 in
theorem ob4_is (hN : N = #[.int .i64 k1, .int .i64 k2, .int .i64 k3, .int .i64 k4, .int .i64 k5, .int .i64 t1, .int .i64 t2, .int .i64 v1, .int .i64 o1, .int .i64 o2, .int .i64 v2, .slice P p pc, .slice Q q qc, .int .i64 l1, .int .i64 l2, .int .i64 v3]) (I : In8 w A n zs X x xc ps Y y yc os P p cs Q q ms) {b : Bool} (h : obB s l c sh zs rt rq rv ps os k1 k2 k3 k4 k5 t1 t2 v1 o1 o2 v2 l1 l2 v3 cs ms 4 = b) :
    Calls Tryz.prog 170 #[.agg #[.int .i64 s, .int .i64 l, .int .i64 c, .int .i64 sh, .slice A n cap], .agg #[.int .i64 rt, .int .i64 rq, .int .i64 rv, .slice X x xc, .slice Y y yc], .agg N] w fun e w' => e = .returned (.bool b) ∧ Below w.heap.size w w' := by
  have K0 := K8.start w N s l c sh cap rt rq rv I
  obtain ⟨n0, n1, n2, n3, n4, n5, n6, n7, n8, n9, n10, n11, n12, n13, n14, n15⟩ := cellsN hN
  have cN := K0.nb.cell
  obtain ⟨r0, r1, r2, r3, r4⟩ := K0.rb.five
  clear hN I n0 n2 n3 n4 n7 n8 n9 n10 n11 n12 n13 n14 n15
  subst h
  rcases hg : getO os k2 with _ | ⟨k, a, d, v⟩
  · have HV := Lib.hid (show obB s l c sh zs rt rq rv ps os k1 k2 k3 k4 k5 t1 t2 v1 o1 o2 v2 l1 l2 v3 cs ms 4 = false from opnF_none hg _)
    have HG := Lib.hid hg
    clear hg
    go_enter Tryz.func170, Tryz.ntmps170
    go_wp2_with fail
    generalize (((w.alloc _).alloc _).alloc _ : World) = w0 at K0 cN r0 r1 r2 r3 r4 ⊢
    refine (openOf_is rt rq rv X x xc Y y yc os k2 w0 (by have := K0.inp.hy; omega) K0.inp.ops).mono ?_
    rw [HG.out]
    rintro e w1 ⟨rfl, hb⟩
    have E := bel_trans (bel_trans K0.bel hb) (bel_alloc w1 (.cells #[.int .i64 0, .int .i64 0, .int .i64 0, .int .i64 0] 97))
    clear K0 cN r0 r1 r2 r3 r4
    unfold opV
    go_wp2
    go_ret
    exact ⟨by rw [HV.out]; rfl, E⟩
  · obtain ⟨r, hr⟩ : ∃ r, (cmpN a d t1 t2 == 1) = r := ⟨_, rfl⟩
    have HV := Lib.hid (show obB s l c sh zs rt rq rv ps os k1 k2 k3 k4 k5 t1 t2 v1 o1 o2 v2 l1 l2 v3 cs ms 4 = r from (opnF_some hg _).trans hr)
    have HG := Lib.hid hg
    have HC := Lib.hid hr
    clear hg hr
    go_enter Tryz.func170, Tryz.ntmps170
    go_wp2_with fail
    generalize (((w.alloc _).alloc _).alloc _ : World) = w0 at K0 cN r0 r1 r2 r3 r4 ⊢
    refine (openOf_is rt rq rv X x xc Y y yc os k2 w0 (by have := K0.inp.hy; omega) K0.inp.ops).mono ?_
    rw [HG.out]
    rintro e w1 ⟨rfl, hb⟩
    have K1 := (K0.later hb).later (bel_alloc w1 (.cells #[.int .i64 k, .int .i64 a, .int .i64 d, .int .i64 v] 97))
    clear K0 cN r0 r1 r2 r3 r4 hb
    have cN := K1.nb.cell
    unfold opV
    go_wp2_with fail
    generalize (w1.alloc _ : World) = w2 at K1 cN ⊢
    refine (newerB_is HC.out w2).mono ?_
    rintro e w3 ⟨rfl, hb⟩
    have E := bel_trans K1.bel hb
    clear K1 cN
    go_wp2
    go_ret
    exact ⟨by rw [HV.out]; rfl, E⟩

end
end Go.Proofs.YtjdepjpjjgkmbaaGreat
